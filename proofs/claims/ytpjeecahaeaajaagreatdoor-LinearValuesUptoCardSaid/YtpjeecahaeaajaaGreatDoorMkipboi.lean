/- By program out of: LnAdd, LnRSame, LnRCoef, LnHand. -/
import Derived.Test.YtpjeecahaeaajaaGreatDoorMhoknop
import Derived.Test.YtpjeecahaeaajaaGreatDoorMamhhie
set_option linter.unusedVariables false
set_option linter.unusedSimpArgs false
namespace Go.Proofs.YtpjeecahaeaajaaGreatDoor
open Go.RowKit Rep Ln
structure AddAt (W6 : World) (b m : Nat) (o : Bool) (c : Rat) (ms : List Mo) (i : Nat × RawR × Nat × List RM × Nat) (W : World) : Prop where
 r : BR b m o W6 W
 blk : W.heap[i.1]? = some (.cells #[.bool i.2.1.1, .slice i.2.1.2.1.1 i.2.1.2.1.2.1 i.2.1.2.1.2.2, .slice i.2.1.2.2.1 i.2.1.2.2.2.1 i.2.1.2.2.2.2, .slice (some ⟨i.2.2.1, 0, none⟩) i.2.2.2.1.length i.2.2.2.2] 30 (0, 0))
 ge : W6.heap.size ≤ i.1
 poly : o = false → PolyAt c ms i.2.1 (some ⟨i.2.2.1, 0, none⟩) i.2.2.2.1 W
 le : i.2.2.2.1.length ≤ i.2.2.2.2
 max : i.2.2.2.2 ≤ 1000000
theorem add_end {W6 W : World} {b m : Nat} {o oA : Bool} {c : Rat} {ms : List Mo} {P : Nat} {s : Bool} {z1 z2 : Option Addr} {m1 k1 m2 k2 G cp : Nat} {rs : List RM} (h : BR b m o W6 W) (hT : Tab W6) (hb : b < W6.heap.size)
    (hP : W.heap[P]? = some (.cells #[.bool false, .slice none 0 0, .slice none 0 0, .slice none 0 0] 30 (0, 0))) (hp : W6.heap.size ≤ P) (hv : VQ (leftQ oA c) (s, (z1, m1, k1), (z2, m2, k2)) W) (hm : o = false → MsAt W (some ⟨G, 0, none⟩) rs ms) (hl : rs.length ≤ cp) (hc : cp ≤ 1000000) (hoA : o = false → oA = false) :
    AddAt W6 b m o c ms (P, (s, (z1, m1, k1), (z2, m2, k2)), (G, rs, cp)) (putL4 W P (.bool s) (.slice z1 m1 k1) (.slice z2 m2 k2) (.slice (some ⟨G, 0, none⟩) rs.length cp)) := by
 have hno := poly_noI hP
 have hg := putL4_grown W P (.bool s) (.slice z1 m1 k1) (.slice z2 m2 k2) (.slice (some ⟨G, 0, none⟩) rs.length cp)
 refine ⟨h.setL hT hb hp _ _ _ _, putL4_block hP _ _ _ _, hp, fun e => ⟨?_, (hm e).past hno hg⟩, hl, hc⟩
 have := hv.pastL hno.2 hg
 rw [hoA e] at this
 exact this
set_option maxRecDepth 100000 in
set_option maxHeartbeats 16000000 in
theorem Add_p {w : World} {b m : Nat} {o : Bool} {k c1 c2 : Rat} {ms1 ms2 : List Mo} {ps : Bool} {pa pb : Option Addr} {pl pc pk pe : Nat} {ks : Bool} {ka kb : Option Addr} {kl kc kk ke : Nat} {qs : Bool} {qa qb : Option Addr} {ql qc qk qe : Nat} {a1 a2 : Option Addr} {cp1 cp2 : Nat} {rs1 rs2 : List RM} (hB : Bench w b m o) (hT : Tab w)
    (hp : PolyAt c1 ms1 (ps, (pa, pl, pc), (pb, pk, pe)) a1 rs1 w) (hk : VQ k (ks, (ka, kl, kc), (kb, kk, ke)) w) (hq : PolyAt c2 ms2 (qs, (qa, ql, qc), (qb, qk, qe)) a2 rs2 w) (zk : szQ k ≤ 400) (z1 : szQ c1 ≤ 400) (zm1 : ∀ x ∈ ms1, szQ x.2 ≤ 400) (z2 : szQ c2 ≤ 400) (zm2 : ∀ x ∈ ms2, szQ x.2 ≤ 400) (hn1 : rs1.length ≤ 500) (hn2 : rs2.length ≤ 500) :
    Calls Tryz.prog 16 #[.pointer (some ⟨b, 0, none⟩), .agg #[.bool ps, .slice pa pl pc, .slice pb pk pe, .slice a1 rs1.length cp1], .agg #[.bool ks, .slice ka kl kc, .slice kb kk ke], .agg #[.bool qs, .slice qa ql qc, .slice qb qk qe, .slice a2 rs2.length cp2]] w (GotP b m (addO m o c1 ms1 k c2 ms2) w (c1 + k * c2) (merge ms1 (scale k ms2))) := by
 obtain ⟨W0, hW0, hB0, b0, b1, b2, b3, hs⟩ := boxes4 w #[.bool ps, .slice pa pl pc, .slice pb pk pe, .slice a1 rs1.length cp1] #[.bool ks, .slice ka kl kc, .slice kb kk ke] #[.bool qs, .slice qa ql qc, .slice qb qk qe, .slice a2 rs2.length cp2] #[.bool false, .slice none 0 0, .slice none 0 0, .slice none 0 0] 30 27 30 30
 have hT0 := hT.kept hB0
 have hBB := hB.kept hB0
 have hbl := hB.lt
 have hR0 : BR b m o w W0 := (BR.refl hB hT).kept hB0
 have HSC := Lib.hid (Scale_any (cp := cp2) hBB hT0 (hk.kept hB0) (hq.kept hB0) (by omega) (by omega) (fun x hx => by have := zm2 x hx; omega) (by omega))
 have HP0 := Lib.hid (hp.kept hB0)
 have HBT := Lib.hid (And.intro hBB hT0)
 have HSZ := Lib.hid (And.intro z1 (And.intro zm1 (And.intro zk (And.intro z2 (And.intro zm2 (And.intro hn1 (And.intro hn2 hq.ms.len)))))))
 have HBLK := Lib.hid (And.intro b0 (And.intro b3 (And.intro hs (And.intro hR0 (And.intro hT hbl)))))
 have HW0 := Lib.hid hW0
 obtain ⟨q0, q1, q2, q3, _⟩ := cellsL4 b2
 obtain ⟨r0, r1, r2, _⟩ := cells3 b1
 obtain ⟨n1, hn1'⟩ : ∃ n, rs1.length = n := ⟨_, rfl⟩
 have HN1 := Lib.hid hn1'
 obtain ⟨n2, hn2'⟩ : ∃ n, rs2.length = n := ⟨_, rfl⟩
 rw [hn1'] at hW0 HW0 HBLK ⊢
 rw [hn2'] at hW0 HW0 HSC q3 ⊢
 clear hB hT hp hk hq zk z1 zm1 z2 zm2 hn1 hn2 hT0 hBB hbl hR0 hB0 b0 b1 b2 b3 hs hn1' hn2'
 rw [hW0] at q0 q1 q2 q3 r0 r1 r2
 clear hW0
 go_enter Tryz.func16, Tryz.ntmps16
 go_wp2_with fail
 rw [← HW0.out]
 refine HSC.out.mono ?_
 rintro e w5 ⟨s9, y1, l1, d1, y2, l2, d2, a9, cp9, rs9, rfl, hr5, hp5, hl9, hc9, hn9⟩
 clear q0 q1 q2 q3 r0 r1 r2 HSC
 have hal := (Below.refl w5.heap.size w5).alloc (Nat.le_refl _) (.cells #[.bool s9, .slice y1 l1 d1, .slice y2 l2 d2, .slice a9 rs9.length cp9] 30)
 obtain ⟨W6, hW6⟩ : ∃ W6, W6 = w5.alloc (.cells #[.bool s9, .slice y1 l1 d1, .slice y2 l2 d2, .slice a9 rs9.length cp9] 30) := ⟨_, rfl⟩
 rw [← hW6] at hal
 generalize ho1 : (o || ovQ m (k * c2) || scaleO m k ms2) = o1 at hr5 hp5
 have hmb : W6.heap[w5.heap.size]? = some (.cells #[.bool s9, .slice y1 l1 d1, .slice y2 l2 d2, .slice a9 rs9.length cp9] 30 (0, 0)) := by rw [hW6]; exact heap_alloc_new w5 _
 have hpb : W6.heap[w.heap.size]? = _ := stayL (hr5.out.block HBLK.out.1 (by have := HBLK.out.2.2.2.2.2; omega)) hal
 have hrb : W6.heap[w.heap.size + 1 + 1 + 1]? = _ := stayL (hr5.out.block HBLK.out.2.1 (by have := HBLK.out.2.2.2.2.2; omega)) hal
 have hr6 := (hr5.out.kept hal)
 have hbw : BR b m o1 W6 W6 := hr6.self
 have HWR := Lib.hid (BR.trans HBLK.out.2.2.2.1 hr6)
 have hb6 : b < W6.heap.size := hr6.bench.lt
 have hp6 := (HP0.out.bench HBT.out.1 hr5.out).kept hal
 have hm6 := hp5.out.kept hal
 have hmb9 : w5.heap.size ≠ b := by have := hr5.out.bench.lt; omega
 have hpb9 : w.heap.size ≠ b := by have := HBLK.out.2.2.2.2.2; omega
 have hzl : ∀ x ∈ leftM o1 (scale k ms2), szQ x.2 ≤ 1900 := fun x hx => by
  unfold leftM at hx
  split at hx
  ·simp at hx
  ·have := scale_sz HSZ.out.2.2.1 HSZ.out.2.2.2.2.1 x hx; omega
 have hl9' : rs9.length ≤ 1000 := by
  have h1 := hm6.ms.len
  have h2 := scale_len k ms2
  have h3 := HSZ.out.2.2.2.2.2.2
  unfold leftM at h1
  split at h1
  ·simp at h1; simp [h1]
  ·omega
 have hz2 : szQ (leftQ o1 (k * c2)) ≤ 4000 := leftQ_sz (by have := HSZ.out; have := szQ_mul k c2; omega)
 have HC1 : Hid (∀ W, BR b m o1 W6 W → Calls Tryz.prog 30 #[.pointer (some ⟨b, 0, none⟩), .agg #[.bool ps, .slice pa pl pc, .slice pb pk pe], .agg #[.bool s9, .slice y1 l1 d1, .slice y2 l2 d2]] W (GotO b m (o1 || ovQ m (c1 + leftQ o1 (k * c2))) W (c1 + leftQ o1 (k * c2)))) := Lib.hid fun W h =>
  gotO_add h.self (hp6.num.benchL hbw.bench h.g) (hm6.num.benchL hbw.bench h.g) (by have := HSZ.out.1; omega) hz2
 have HC2 : Hid (∀ W, BR b m (o1 || ovQ m (c1 + leftQ o1 (k * c2))) W6 W → Calls Tryz.prog 35 #[.pointer (some ⟨b, 0, none⟩), .slice a1 rs1.length cp1, .slice a9 rs9.length cp9] W (GotM b m ((o1 || ovQ m (c1 + leftQ o1 (k * c2))) || mergeO m ms1 (leftM o1 (scale k ms2))) W (merge ms1 (leftM o1 (scale k ms2))))) := Lib.hid fun W h =>
  merge_any h.bench h.tab (hp6.ms.bench hbw.bench h) ⟨hm6.ms.bench hbw.bench h, hl9, hc9, hn9⟩ (fun x hx => by have := HSZ.out.2.1 x hx; omega) hzl (by have := HSZ.out; omega) hl9'
 have HOF : Hid (((o1 || ovQ m (c1 + leftQ o1 (k * c2))) || mergeO m ms1 (leftM o1 (scale k ms2))) = addO m o c1 ms1 k c2 ms2) := Lib.hid (by
  unfold addO
  rw [ho1]
  cases o1 <;> rfl)
 have HEX : Hid (((o1 || ovQ m (c1 + leftQ o1 (k * c2))) || mergeO m ms1 (leftM o1 (scale k ms2))) = false → c1 + leftQ o1 (k * c2) = c1 + k * c2 ∧ merge ms1 (leftM o1 (scale k ms2)) = merge ms1 (scale k ms2)) := Lib.hid fun e => by
  have : o1 = false := by
   cases o1
   ·rfl
   ·simp at e
  rw [this]
  exact ⟨rfl, rfl⟩
 have HOA : Hid (((o1 || ovQ m (c1 + leftQ o1 (k * c2))) || mergeO m ms1 (leftM o1 (scale k ms2))) = false → (o1 || ovQ m (c1 + leftQ o1 (k * c2))) = false) := Lib.hid fun e => (Bool.or_eq_false_iff.1 e).1
 rw [HOF.out] at HC2 HEX HOA
 rw [HN1.out] at HC2
 obtain ⟨n9, hn9'⟩ : ∃ n, rs9.length = n := ⟨_, rfl⟩
 rw [hn9'] at HC2 hmb hW6
 have HK : Hid (∀ p W, BR b m p W6 W → (W.cell? ⟨w.heap.size, 0, none⟩ = some (.bool ps) ∧ W.cell? ⟨w.heap.size, 1, none⟩ = some (.slice pa pl pc) ∧ W.cell? ⟨w.heap.size, 2, none⟩ = some (.slice pb pk pe) ∧ W.cell? ⟨w.heap.size, 3, none⟩ = some (.slice a1 n1 cp1) ∧ W.cell? ⟨w5.heap.size, 0, none⟩ = some (.bool s9) ∧ W.cell? ⟨w5.heap.size, 1, none⟩ = some (.slice y1 l1 d1) ∧ W.cell? ⟨w5.heap.size, 2, none⟩ = some (.slice y2 l2 d2) ∧ W.cell? ⟨w5.heap.size, 3, none⟩ = some (.slice a9 n9 cp9))) := Lib.hid fun p W h => by
  obtain ⟨x0, x1, x2, x3, _⟩ := cellsL4 (h.block hpb hpb9)
  obtain ⟨x4, x5, x6, x7, _⟩ := cellsL4 (h.block hmb hmb9)
  exact ⟨x0, x1, x2, x3, x4, x5, x6, x7⟩
 have HRB := Lib.hid hrb
 have HLT := Lib.hid hb6
 have HT6 := Lib.hid hr6.tab
 have HBW := Lib.hid hbw
 have HBD := Lib.hid (hbw.kept (below_drew W6))
 have HW6 := Lib.hid hW6
 rw [hn9']
 generalize (o1 || ovQ m (c1 + leftQ o1 (k * c2))) = oA at *
 generalize addO m o c1 ms1 k c2 ms2 = oF at *
 generalize c1 + leftQ o1 (k * c2) = cX at *
 generalize merge ms1 (leftM o1 (scale k ms2)) = mX at *
 clear hal hmb hpb hrb hr6 hbw hb6 hp6 hm6 hmb9 hpb9 hzl hl9' hz2 hr5 hp5 hl9 hc9 hn9 hn9' ho1 HP0 hW6 HOF
 go_wp2_with (first | (with_reducible refine wpList_alloc_agg rfl 30 rfl zPoly zero_poly ?_) | (refine wpList_store_new rfl 30 (.tmp 9) (.tmp 14) (by with_reducible rfl) w5 zPoly #[.bool s9, .slice y1 l1 d1, .slice y2 l2 d2, .slice a9 n9 cp9] (by rfl) (by rfl) (by rfl) (by rw [size_poly]; rfl) (by rfl) (one_poly _ _ _ _ _ _ _ _ _ _) ?_))
 rw [← HW6.out]
 generalize hMB : w5.heap.size = MB at *
 clear hMB
 refine wp_region_ex (ι := Nat × RawR × Nat × List RM × Nat) (fun i => [(15, .pointer (some ⟨b, 0, none⟩)), (16, .pointer (some ⟨w.heap.size, 0, none⟩)), (17, .agg #[.bool ps, .slice pa pl pc, .slice pb pk pe]), (18, .pointer (some ⟨MB, 0, none⟩)), (19, .agg #[.bool s9, .slice y1 l1 d1, .slice y2 l2 d2]), (20, .agg #[.bool i.2.1.1, .slice i.2.1.2.1.1 i.2.1.2.1.2.1 i.2.1.2.1.2.2, .slice i.2.1.2.2.1 i.2.1.2.2.2.1 i.2.1.2.2.2.2]), (21, .pointer (some ⟨b, 0, none⟩)), (22, .pointer (some ⟨w.heap.size, 3, none⟩)), (23, .slice a1 n1 cp1), (24, .pointer (some ⟨MB, 3, none⟩)), (25, .slice a9 n9 cp9), (26, .slice (some ⟨i.2.2.1, 0, none⟩) (List.length i.2.2.2.1) i.2.2.2.2), (27, .agg #[.bool i.2.1.1, .slice i.2.1.2.1.1 i.2.1.2.1.2.1 i.2.1.2.1.2.2, .slice i.2.1.2.2.1 i.2.1.2.2.2.1 i.2.1.2.2.2.2, .slice (some ⟨i.2.2.1, 0, none⟩) (List.length i.2.2.2.1) i.2.2.2.2]), (10, .pointer (some ⟨i.1, 0, none⟩))]) (AddAt W6 b m oF cX mX) ?reg ?rest
 case reg =>
  refine wp_region_held_drew (S := (fun w' => w'.cell? ⟨w.heap.size, 0, none⟩ = some (.bool ps) ∧ w'.cell? ⟨w.heap.size, 1, none⟩ = some (.slice pa pl pc) ∧ w'.cell? ⟨w.heap.size, 2, none⟩ = some (.slice pb pk pe) ∧ w'.cell? ⟨w.heap.size, 3, none⟩ = some (.slice a1 n1 cp1) ∧ w'.cell? ⟨MB, 0, none⟩ = some (.bool s9) ∧ w'.cell? ⟨MB, 1, none⟩ = some (.slice y1 l1 d1) ∧ w'.cell? ⟨MB, 2, none⟩ = some (.slice y2 l2 d2) ∧ w'.cell? ⟨MB, 3, none⟩ = some (.slice a9 n9 cp9))) (by kernel_rfl) ?_ (fun hHeld => ?_)
  ·exact HK.out _ _ HBD.out
  refine tkL 0 (v := ?_) ?_ hHeld ?_
  rotate_left 1
  ·intro w' hSw
   (try dsimp only at hSw)
   go_simp
   try with_reducible rfl
  try simp only [Act.put, zA, zB, zC, zD, zE, zF]
  refine tkL 1 (v := ?_) ?_ hHeld ?_
  rotate_left 1
  ·intro w' hSw
   (try dsimp only at hSw)
   go_simp
   try with_reducible rfl
  try simp only [Act.put, zA, zB, zC, zD, zE, zF]
  refine tkL 2 (v := ?_) ?_ hHeld ?_
  rotate_left 1
  ·intro w' hSw
   (try dsimp only at hSw)
   go_simp
   try with_reducible rfl
  try simp only [Act.put, zA, zB, zC, zD, zE, zF]
  refine tkL 3 (v := ?_) ?_ hHeld ?_
  rotate_left 1
  ·intro w' hSw
   (try dsimp only at hSw)
   go_simp
   try with_reducible rfl
  try simp only [Act.put, zA, zB, zC, zD, zE, zF]
  refine tkL 4 (v := ?_) ?_ hHeld ?_
  rotate_left 1
  ·intro w' hSw
   (try dsimp only at hSw)
   go_simp
   try with_reducible rfl
  try simp only [Act.put, zA, zB, zC, zD, zE, zF]
  refine tkL 6 (v := ?_) ?_ hHeld ?_
  rotate_left 1
  ·intro w' hSw
   (try dsimp only at hSw)
   go_simp
   try with_reducible rfl
  try simp only [Act.put, zA, zB, zC, zD, zE, zF]
  refine tkL 7 (v := ?_) ?_ hHeld ?_
  rotate_left 1
  ·intro w' hSw
   (try dsimp only at hSw)
   go_simp
   try with_reducible rfl
  try simp only [Act.put, zA, zB, zC, zD, zE, zF]
  refine tkL 8 (v := ?_) ?_ hHeld ?_
  rotate_left 1
  ·intro w' hSw
   (try dsimp only at hSw)
   go_simp
   try with_reducible rfl
  try simp only [Act.put, zA, zB, zC, zD, zE, zF]
  refine tkL 9 (v := ?_) ?_ hHeld ?_
  rotate_left 1
  ·intro w' hSw
   (try dsimp only at hSw)
   go_simp
   try with_reducible rfl
  try simp only [Act.put, zA, zB, zC, zD, zE, zF]
  refine tkL 10 (v := ?_) ?_ hHeld ?_
  rotate_left 1
  ·intro w' hSw
   (try dsimp only at hSw)
   go_simp
   try with_reducible rfl
  try simp only [Act.put, zA, zB, zC, zD, zE, zF]
  refine rdy [5, 13] ?_
  refine AllReadyH.cons (by rfl) (fun K hK => ?_) ?_
  ·go_simp
   refine (HC1.out _ HBD.out).mono ?_
   rintro e w1 ⟨s8, e1, f1, g1, e2, f2, g2, rfl, hr1, hv1⟩
   have HB1 := Lib.hid (BR.trans HBD.out hr1.out)
   have HV1 := Lib.hid hv1.out
   clear hr1 hv1
   refine hK.out _ _ ?_ (fun hHeld => ?_)
   ·exact HK.out _ _ HB1.out
   clear hK K
   try simp only [Act.put, zA, zB, zC, zD, zE, zF]
   refine rdy [11, 13] ?_
   refine AllReadyH.cons (by rfl) (fun K hK => ?_) ?_
   ·go_simp
    refine (HC2.out _ HB1.out).mono ?_
    rintro e w2 ⟨G9, cp8, rs8, rfl, hr2, hm2, hl8, hc8⟩
    have HB2 := Lib.hid (BR.trans HB1.out hr2.out)
    have HV2 := Lib.hid (VQ.benchL HV1.out (BR.bench HB1.out) hr2.out.g)
    have HM2 := Lib.hid hm2.out
    have HL8 := Lib.hid (And.intro hl8 hc8)
    clear hr2 hm2 hl8 hc8
    refine hK.out _ _ ?_ (fun hHeld => ?_)
    ·exact HK.out _ _ HB2.out
    clear hK K
    try simp only [Act.put, zA, zB, zC, zD, zE, zF]
    refine tkL 12 (v := ?_) ?_ hHeld ?_
    rotate_left 1
    ·intro w' hSw
     (try dsimp only at hSw)
     go_simp
     try with_reducible rfl
    try simp only [Act.put, zA, zB, zC, zD, zE, zF]
    refine rdy [13] ?_
    refine AllReadyH.cons (by rfl) (fun K hK => ?_) AllReadyH.nil
    go_simp
    obtain ⟨w3, hw3⟩ : ∃ w3, w3 = w2.alloc (.cells #[.bool false, .slice none 0 0, .slice none 0 0, .slice none 0 0] 30) := ⟨_, rfl⟩
    rw [← hw3]
    have hal : Below w2.heap.size w2 w3 := by rw [hw3]; exact (Below.refl _ _).alloc (Nat.le_refl _) _
    have HV3 := Lib.hid (VQ.kept HV2.out hal)
    have HM3 := Lib.hid (fun e => (HM2.out e).kept hal)
    have HB3 := Lib.hid (BR.kept HB2.out hal)
    have HP3 : Hid (w3.heap[w2.heap.size]? = some (.cells #[.bool false, .slice none 0 0, .slice none 0 0, .slice none 0 0] 30 (0, 0))) := Lib.hid (by rw [hw3]; exact heap_alloc_new w2 _)
    have HPL3 : Hid (W6.heap.size ≤ w2.heap.size) := Lib.hid (BR.size HB2.out)
    clear hal hw3
    refine hK.out _ _ ?_ (fun hHeld => ?_)
    ·exact HK.out _ _ HB3.out
    clear hK K
    try simp only [Act.put, zA, zB, zC, zD, zE, zF]
    refine rdy [14] ?_
    refine AllReadyH.cons (by rfl) (fun K hK => ?_) AllReadyH.nil
    obtain ⟨x0, x1, x2, x3, f0, f1', f2', f3⟩ := cellsL4 HP3.out
    go_simp
    have HE := Lib.hid (add_end HB3.out HT6.out HLT.out HP3.out HPL3.out HV3.out HM3.out HL8.out.1 HL8.out.2 HOA.out)
    clear x0 x1 x2 x3 f0 f1' f2' f3
    refine hK.out _ _ ?_ (fun hHeld => ?_)
    ·exact HK.out _ _ (AddAt.r HE.out)
    clear hK K
    try simp only [Act.put, zA, zB, zC, zD, zE, zF]
    refine wpAnyH_done (by kernel_rfl) ?_ _
    refine ⟨(w2.heap.size, (s8, (e1, f1, g1), (e2, f2, g2)), (G9, rs8, cp8)), ?_, HE.out⟩
    simp only [puts, Act.put, zA, zB, zC, zD, zE, zF]
   refine AllReadyH.cons (by rfl) (fun K hK => ?_) ?_
   ·go_simp
    obtain ⟨w4, hw4⟩ : ∃ w4, w4 = w1.alloc (.cells #[.bool false, .slice none 0 0, .slice none 0 0, .slice none 0 0] 30) := ⟨_, rfl⟩
    rw [← hw4]
    have hal : Below w1.heap.size w1 w4 := by rw [hw4]; exact (Below.refl _ _).alloc (Nat.le_refl _) _
    have HV4 := Lib.hid (VQ.kept HV1.out hal)
    have HB4 := Lib.hid (BR.kept HB1.out hal)
    have HP4 : Hid (w4.heap[w1.heap.size]? = some (.cells #[.bool false, .slice none 0 0, .slice none 0 0, .slice none 0 0] 30 (0, 0))) := Lib.hid (by rw [hw4]; exact heap_alloc_new w1 _)
    have HPL4 : Hid (W6.heap.size ≤ w1.heap.size) := Lib.hid (BR.size HB1.out)
    clear hal hw4
    refine hK.out _ _ ?_ (fun hHeld => ?_)
    ·exact HK.out _ _ HB4.out
    clear hK K
    try simp only [Act.put, zA, zB, zC, zD, zE, zF]
    refine rdy [11] ?_
    refine AllReadyH.cons (by rfl) (fun K hK => ?_) AllReadyH.nil
    go_simp
    refine (HC2.out _ HB4.out).mono ?_
    rintro e w5 ⟨G9, cp8, rs8, rfl, hr5, hm5, hl8, hc8⟩
    have HP5 := Lib.hid (BR.block hr5.out HP4.out (by have := HLT.out; have := HPL4.out; omega))
    have HB5 := Lib.hid (BR.trans HB4.out hr5.out)
    have HV5 := Lib.hid (VQ.benchL HV4.out (BR.bench HB4.out) hr5.out.g)
    have HM5 := Lib.hid hm5.out
    have HL8 := Lib.hid (And.intro hl8 hc8)
    clear hr5 hm5 hl8 hc8
    refine hK.out _ _ ?_ (fun hHeld => ?_)
    ·exact HK.out _ _ HB5.out
    clear hK K
    try simp only [Act.put, zA, zB, zC, zD, zE, zF]
    refine tkL 12 (v := ?_) ?_ hHeld ?_
    rotate_left 1
    ·intro w' hSw
     (try dsimp only at hSw)
     go_simp
     try with_reducible rfl
    try simp only [Act.put, zA, zB, zC, zD, zE, zF]
    refine rdy [14] ?_
    refine AllReadyH.cons (by rfl) (fun K hK => ?_) AllReadyH.nil
    obtain ⟨x0, x1, x2, x3, f0, f1', f2', f3⟩ := cellsL4 HP5.out
    go_simp
    have HE := Lib.hid (add_end HB5.out HT6.out HLT.out HP5.out HPL4.out HV5.out HM5.out HL8.out.1 HL8.out.2 HOA.out)
    clear x0 x1 x2 x3 f0 f1' f2' f3
    refine hK.out _ _ ?_ (fun hHeld => ?_)
    ·exact HK.out _ _ (AddAt.r HE.out)
    clear hK K
    try simp only [Act.put, zA, zB, zC, zD, zE, zF]
    refine wpAnyH_done (by kernel_rfl) ?_ _
    refine ⟨(w1.heap.size, (s8, (e1, f1, g1), (e2, f2, g2)), (G9, rs8, cp8)), ?_, HE.out⟩
    simp only [puts, Act.put, zA, zB, zC, zD, zE, zF]
   exact AllReadyH.nil
  refine AllReadyH.cons (by rfl) (fun K hK => ?_) ?_
  ·go_simp
   obtain ⟨w6, hw6⟩ : ∃ w6, w6 = (W6.alloc (.cells #[.bool false, .slice none 0 0, .slice none 0 0, .slice none 0 0] 30)).drew := ⟨_, rfl⟩
   rw [← hw6]
   have hal : Below W6.heap.size W6 w6 := by rw [hw6]; exact ((Below.refl _ _).alloc (Nat.le_refl _) _).drew
   have HB6 := Lib.hid (BR.kept HBW.out hal)
   have HP6 : Hid (w6.heap[W6.heap.size]? = some (.cells #[.bool false, .slice none 0 0, .slice none 0 0, .slice none 0 0] 30 (0, 0))) := Lib.hid (by rw [hw6]; exact heap_alloc_new W6 _)
   have HPL6 : Hid (W6.heap.size ≤ W6.heap.size) := Lib.hid (Nat.le_refl _)
   clear hal hw6
   refine hK.out _ _ ?_ (fun hHeld => ?_)
   ·exact HK.out _ _ HB6.out
   clear hK K
   try simp only [Act.put, zA, zB, zC, zD, zE, zF]
   refine rdy [5] ?_
   refine AllReadyH.cons (by rfl) (fun K hK => ?_) AllReadyH.nil
   go_simp
   refine (HC1.out _ HB6.out).mono ?_
   rintro e w7 ⟨s8, e1, f1, g1, e2, f2, g2, rfl, hr7, hv7⟩
   have HP7 := Lib.hid (BR.block hr7.out HP6.out (by have := HLT.out; have := HPL6.out; omega))
   have HB7 := Lib.hid (BR.trans HB6.out hr7.out)
   have HV7 := Lib.hid hv7.out
   clear hr7 hv7
   refine hK.out _ _ ?_ (fun hHeld => ?_)
   ·exact HK.out _ _ HB7.out
   clear hK K
   try simp only [Act.put, zA, zB, zC, zD, zE, zF]
   refine rdy [11] ?_
   refine AllReadyH.cons (by rfl) (fun K hK => ?_) AllReadyH.nil
   go_simp
   refine (HC2.out _ HB7.out).mono ?_
   rintro e w8 ⟨G9, cp8, rs8, rfl, hr8, hm8, hl8, hc8⟩
   have HP8 := Lib.hid (BR.block hr8.out HP7.out (by have := HLT.out; have := HPL6.out; omega))
   have HB8 := Lib.hid (BR.trans HB7.out hr8.out)
   have HV8 := Lib.hid (VQ.benchL HV7.out (BR.bench HB7.out) hr8.out.g)
   have HM8 := Lib.hid hm8.out
   have HL8 := Lib.hid (And.intro hl8 hc8)
   clear hr8 hm8 hl8 hc8
   refine hK.out _ _ ?_ (fun hHeld => ?_)
   ·exact HK.out _ _ HB8.out
   clear hK K
   try simp only [Act.put, zA, zB, zC, zD, zE, zF]
   refine tkL 12 (v := ?_) ?_ hHeld ?_
   rotate_left 1
   ·intro w' hSw
    (try dsimp only at hSw)
    go_simp
    try with_reducible rfl
   try simp only [Act.put, zA, zB, zC, zD, zE, zF]
   refine rdy [14] ?_
   refine AllReadyH.cons (by rfl) (fun K hK => ?_) AllReadyH.nil
   obtain ⟨x0, x1, x2, x3, f0, f1', f2', f3⟩ := cellsL4 HP8.out
   go_simp
   have HE := Lib.hid (add_end HB8.out HT6.out HLT.out HP8.out HPL6.out HV8.out HM8.out HL8.out.1 HL8.out.2 HOA.out)
   clear x0 x1 x2 x3 f0 f1' f2' f3
   refine hK.out _ _ ?_ (fun hHeld => ?_)
   ·exact HK.out _ _ (AddAt.r HE.out)
   clear hK K
   try simp only [Act.put, zA, zB, zC, zD, zE, zF]
   refine wpAnyH_done (by kernel_rfl) ?_ _
   refine ⟨(W6.heap.size, (s8, (e1, f1, g1), (e2, f2, g2)), (G9, rs8, cp8)), ?_, HE.out⟩
   simp only [puts, Act.put, zA, zB, zC, zD, zE, zF]
  exact AllReadyH.nil
 rintro ⟨P, ⟨s8, ⟨e1, f1, g1⟩, ⟨e2, f2, g2⟩⟩, G9, rs8, cp8⟩ w8 hS
 simp only [puts, Act.put, zA, zB, zC, zD, zE, zF]
 have HS := Lib.hid hS
 have HOV := Lib.hid (gotO_over hS.r.self)
 clear hS HC1 HC2
 go_wp2_with fail
 refine HOV.out.mono ?_
 rintro e w13 ⟨rfl, hr13⟩
 have hR13 := HWR.out.trans (HS.out.r.trans hr13.out)
 have hz13 := (HS.out.r.trans hr13.out).block HRB.out (by have := HBLK.out.2.2.2.2.2; omega)
 have hb13 := hr13.out.block HS.out.blk (by have := HS.out.ge; have := HLT.out; dsimp only at *; omega)
 obtain ⟨q0, q1, q2, q3, n0, n1', n2, n3⟩ := cellsL4 hz13
 cases oF
 ·obtain ⟨ex1, ex2⟩ := HEX.out rfl
  have hp13 := (HS.out.poly rfl).bench HS.out.r.bench hr13.out
  rw [ex1, ex2] at hp13
  have HE := Lib.hid (fin_poly2 hR13 HBLK.out.2.2.2.2.1 HBLK.out.2.2.2.2.2 (show w.heap.size ≤ w.heap.size + 1 + 1 + 1 by omega) hz13 hp13 HS.out.le HS.out.max (by intro e; cases e))
  obtain ⟨r0, r1, r2, r3, _⟩ := cellsL4 hb13
  dsimp only at r0 r1 r2 r3
  clear hR13 hz13 hb13 hp13 hr13 HOV HS ex1 ex2
  go_wp2_with fail
  exact bodyPost_ret (v := .agg #[.bool s8, .slice e1 f1 g1, .slice e2 f2 g2, .slice (some ⟨G9, 0, none⟩) rs8.length cp8]) (by simp [results, Tryz.results16, go_sem, q0, q1, q2, q3]) rfl HE.out
 ·have HE := Lib.hid (fin_zero2 (c := c1 + k * c2) (ms := merge ms1 (scale k ms2)) hR13 HBLK.out.2.2.2.2.1 HBLK.out.2.2.2.2.2 (show w.heap.size ≤ w.heap.size + 1 + 1 + 1 by omega))
  clear hR13 hz13 hb13 hr13 HOV HS
  go_wp2_with fail
  exact bodyPost_ret (v := .agg #[.bool false, .slice none 0 0, .slice none 0 0, .slice none 0 0]) (by simp [results, Tryz.results16, go_sem, q0, q1, q2, q3]) rfl HE.out
end Go.Proofs.YtpjeecahaeaajaaGreatDoor

set_option linter.unusedVariables false
set_option linter.unusedSimpArgs false
namespace Go.Proofs.YtpjeecahaeaajaaGreatDoor
open Go.RowKit Rep Ln
theorem L_inj {a b : Nat} (h : L a = L b) : a = b := by rw [← V_L a, h, V_L]
theorem denN_inj {a b : Nat} (ha : 0 < a) (hb : 0 < b) (h : denN a = denN b) : a = b := by
 unfold denN at h
 split at h <;> split at h <;> omega
theorem q_same (q r : Rat) : (ngQ q = ngQ r ∧ L (mgQ q) = L (mgQ r) ∧ L (denN q.den) = L (denN r.den)) ↔ q = r :=
 ⟨fun ⟨h1, h2, h3⟩ => q_ext h1 (L_inj h2) (denN_inj (den_pos q) (den_pos r) (L_inj h3)), fun h => by subst h; exact ⟨rfl, rfl, rfl⟩⟩
theorem got_sameL {W5 W : World} {q r : Rat} {s t : Bool} {z1 z2 y1 y2 : Option Addr} {m1 k1 m2 k2 n1 j1 n2 j2 : Nat} (h : VQ q (s, (z1, m1, k1), (z2, m2, k2)) W) (g : VQ r (t, (y1, n1, j1), (y2, n2, j2)) W) (hq : szQ q ≤ 100000) (hb : Below W5.heap.size W5 W) :
    Calls Tryz.prog 23 #[.agg #[.bool s, .slice z1 m1 k1, .slice z2 m2 k2], .agg #[.bool t, .slice y1 n1 j1, .slice y2 n2 j2]] W (GotV W5 (.bool (decide (q = r)))) := by
 obtain ⟨e1, d1⟩ := h.eq
 obtain ⟨e2, d2⟩ := g.eq
 rw [e1, e2]
 unfold szQ at hq
 refine (SameR_any (ngQ q) (ngQ r) z1 z2 y1 y2 k1 k2 j1 j2 (L (mgQ q)) (L (denN q.den)) (L (mgQ r)) (L (denN r.den)) W d1.num.1 d1.den.1 d2.num.1 d2.den.1 (by omega) (by omega)).mono ?_
 rintro e W' ⟨rfl, hb2⟩
 refine ⟨?_, Lib.hid (hb.trans (hb2.mono hb.size))⟩
 rw [decide_eq_decide.2 (q_same q r)]
theorem range_cells4 {W : World} {g off : Nat} {d : RM} (h : W.rangeAt g off d.cells) : W.cell? ⟨g, off, none⟩ = some (.int .i64 d.v) ∧ W.cell? ⟨g, off + 1, none⟩ = some (.bool d.s) ∧ W.cell? ⟨g, off + 2, none⟩ = some (.slice d.z1 d.m1 d.k1) ∧ W.cell? ⟨g, off + 3, none⟩ = some (.slice d.z2 d.m2 d.k2) :=
 ⟨h 0 _ rfl, h 1 _ rfl, h 2 _ rfl, h 3 _ rfl⟩
theorem take_same {l r : List Mo} {i : Nat} {x y : Mo} (h : l.take i = r.take i) (hx : l[i]? = some x) (hy : r[i]? = some y) (e : x = y) : l.take (i + 1) = r.take (i + 1) := by
 rw [List.take_add_one, List.take_add_one, h, hx, hy, e]
theorem differ_at {l r : List Mo} {i : Nat} {x y : Mo} (hx : l[i]? = some x) (hy : r[i]? = some y) (e : x ≠ y) : l ≠ r := by
 rintro rfl
 rw [hx] at hy
 exact e (Option.some.inj hy)
set_option maxRecDepth 100000 in
set_option maxHeartbeats 16000000 in
theorem RSame_any {w : World} {c1 c2 : Rat} {ms1 ms2 : List Mo} {ps : Bool} {pa pb : Option Addr} {pl pc pk pe : Nat} {qs : Bool} {qa qb : Option Addr} {ql qc qk qe : Nat} {a1 a2 : Option Addr} {cp1 cp2 : Nat} {rs1 rs2 : List RM}
    (hp : PolyAt c1 ms1 (ps, (pa, pl, pc), (pb, pk, pe)) a1 rs1 w) (hq : PolyAt c2 ms2 (qs, (qa, ql, qc), (qb, qk, qe)) a2 rs2 w) (z1 : szQ c1 ≤ 100000) (zm : ∀ x ∈ ms1, szQ x.2 ≤ 100000) (hn1 : rs1.length ≤ 1000) (hn2 : rs2.length ≤ 1000) :
    Calls Tryz.prog 15 #[.agg #[.bool ps, .slice pa pl pc, .slice pb pk pe, .slice a1 rs1.length cp1], .agg #[.bool qs, .slice qa ql qc, .slice qb qk qe, .slice a2 rs2.length cp2]] w (GivesV (.bool (decide (c1 = c2 ∧ ms1 = ms2))) w) := by
 obtain ⟨W0, hW0, hB0, b0, b1, hs⟩ := boxes2 w #[.bool ps, .slice pa pl pc, .slice pb pk pe, .slice a1 rs1.length cp1] #[.bool qs, .slice qa ql qc, .slice qb qk qe, .slice a2 rs2.length cp2] 30 30
 have hp0 := hp.kept hB0
 have hq0 := hq.kept hB0
 have HSC := Lib.hid (got_sameL (W5 := W0) hp0.num hq0.num z1 (Below.refl _ _))
 have HB0 := Lib.hid hB0
 have HM := Lib.hid (And.intro hp0.ms (And.intro hq0.ms zm))
 have HLE := Lib.hid (And.intro hp.ms.len hq.ms.len)
 have HBX := Lib.hid (And.intro b0 b1)
 have HW0 := Lib.hid hW0
 obtain ⟨q0, q1, q2, q3, _⟩ := cellsL4 b0
 obtain ⟨r0, r1, r2, r3, _⟩ := cellsL4 b1
 obtain ⟨n, hn⟩ : ∃ n, rs1.length = n := ⟨_, rfl⟩
 obtain ⟨n', hn'⟩ : ∃ n, rs2.length = n := ⟨_, rfl⟩
 rw [hn] at hn1 hW0 HW0 q3 HBX HLE ⊢
 rw [hn'] at hn2 hW0 HW0 r3 HBX HLE ⊢
 rw [hW0] at q0 q1 q2 q3 r0 r1 r2 r3
 clear hp hq z1 zm hB0 b0 b1 hs hp0 hq0 hn hn' hW0
 go_enter Tryz.func15, Tryz.ntmps15
 go_wp2_with fail
 rw [← HW0.out]
 refine HSC.out.mono ?_
 rintro e w5 ⟨rfl, hb5⟩
 have HB5 := Lib.hid (HB0.out.trans (hb5.out.mono HB0.out.size))
 have HB05 := Lib.hid hb5.out
 obtain ⟨q0', q1', q2', q3', _⟩ := cellsL4 (stayL HBX.out.1 hb5.out)
 obtain ⟨r0', r1', r2', r3', _⟩ := cellsL4 (stayL HBX.out.2 hb5.out)
 clear q0 q1 q2 q3 r0 r1 r2 r3 hb5 HSC
 by_cases hc : c1 = c2
 ·by_cases hnn : n = n'
  ·subst hnn
   have hnb : ((n : Int) != (n : Int)) = false := by simp
   rw [decide_eq_true hc]
   have HCC := Lib.hid hc
   clear hc
   go_wp2_with fail
   go_loopw [5] (fun (iv : Value) (wr : World) => ∃ i : Nat, i ≤ n ∧ iv = .int .i64 (i : Int) ∧ Hid (Below W0.heap.size W0 wr) ∧ Hid (ms1.take i = ms2.take i)) (fun iv _ => n - (intOf iv).toNat)
   case atStart => exact ⟨0, Nat.zero_le _, rfl, HB05, Lib.hid rfl⟩
   case round =>
    obtain ⟨i, hin, rfl, HB, HT⟩ := hrel
    clear q0' q1' q2' q3' r0' r1' r2' r3'
    have HBW := Lib.hid (HB0.out.trans (HB.out.mono HB0.out.size))
    by_cases hlt : i < n
    ·obtain ⟨d, x, g1, o1, hd, hx, rfl, hok, hr⟩ := (HM.out.1.kept HB.out).get (k := i) (by have := HLE.out; omega)
     obtain ⟨d', y, g2, o2, hd', hy, rfl, hok', hr'⟩ := (HM.out.2.1.kept HB.out).get (k := i) (by have := HLE.out; omega)
     have HZX := Lib.hid (HM.out.2.2 x (List.mem_of_getElem? hx))
     obtain ⟨v, s, z1, m1, k1, z2, m2, k2⟩ := d
     obtain ⟨u, t, y1, n1, j1, y2, n2, j2⟩ := d'
     obtain ⟨xv, xq⟩ := x
     obtain ⟨yv, yq⟩ := y
     obtain ⟨hv, hq⟩ := hok
     obtain ⟨hv', hq'⟩ := hok'
     dsimp only [RM.raw] at hv hq hv' hq'
     subst hv hv'
     have HK : Hid (∀ W, Below wr.heap.size wr W → (W.cell? ⟨g1, o1 + i * 4, none⟩ = some (.int .i64 v) ∧ W.cell? ⟨g1, o1 + i * 4 + 1, none⟩ = some (.bool s) ∧ W.cell? ⟨g1, o1 + i * 4 + 2, none⟩ = some (.slice z1 m1 k1) ∧ W.cell? ⟨g1, o1 + i * 4 + 3, none⟩ = some (.slice z2 m2 k2) ∧ W.cell? ⟨g2, o2 + i * 4, none⟩ = some (.int .i64 u) ∧ W.cell? ⟨g2, o2 + i * 4 + 1, none⟩ = some (.bool t) ∧ W.cell? ⟨g2, o2 + i * 4 + 2, none⟩ = some (.slice y1 n1 j1) ∧ W.cell? ⟨g2, o2 + i * 4 + 3, none⟩ = some (.slice y2 n2 j2) ∧ W.cell? ⟨w.heap.size, 3, none⟩ = some (.slice (some ⟨g1, o1, none⟩) n cp1) ∧ W.cell? ⟨w.heap.size + 1, 3, none⟩ = some (.slice (some ⟨g2, o2, none⟩) n cp2))) := Lib.hid fun W hW => by
      obtain ⟨a0, a1, a2, a3⟩ := range_cells4 (rangeAt_kept hr hW (rangeAt_lt hr (by simp [RM.cells])))
      obtain ⟨b0, b1, b2, b3⟩ := range_cells4 (rangeAt_kept hr' hW (rangeAt_lt hr' (by simp [RM.cells])))
      obtain ⟨_, _, _, c3, _⟩ := cellsL4 (stayL (stayL HBX.out.1 HB.out) hW)
      obtain ⟨_, _, _, d3, _⟩ := cellsL4 (stayL (stayL HBX.out.2 HB.out) hW)
      exact ⟨a0, a1, a2, a3, b0, b1, b2, b3, c3, d3⟩
     have HXY := Lib.hid (And.intro hx hy)
     have hii : (i : Int) < (n : Int) := by omega
     have hiw : wrap64 ((i : Int) + 1) = (i : Int) + 1 := IntWalk.wrap64_in _ (by omega)
     obtain ⟨f0, f1, f2, f3, f4, f5, f6, f7, f8, f9⟩ := HK.out _ (Below.refl _ _)
     by_cases huv : v = u
     ·have hne : (v != u) = false := by simpa using huv
      have HCS := Lib.hid (got_sameL (W5 := wr.drew) (hq.kept (below_drew wr)) (hq'.kept (below_drew wr)) HZX.out (Below.refl _ _))
      have HTK : Hid (xq = yq → ms1.take (i + 1) = ms2.take (i + 1)) := Lib.hid fun e => take_same HT.out hx hy (by rw [huv, e])
      have HNE : Hid (xq ≠ yq → decide (c1 = c2 ∧ ms1 = ms2) = false) := Lib.hid fun e => decide_eq_false fun e2 => differ_at hx hy (fun e3 => e (congrArg Prod.snd e3)) e2.2
      clear hr hr' hd hd' hx hy hq hq' huv
      go_wp2_with fail
      refine wp_region_held_drew (S := (fun W => W.cell? ⟨g1, o1 + i * 4, none⟩ = some (.int .i64 v) ∧ W.cell? ⟨g1, o1 + i * 4 + 1, none⟩ = some (.bool s) ∧ W.cell? ⟨g1, o1 + i * 4 + 2, none⟩ = some (.slice z1 m1 k1) ∧ W.cell? ⟨g1, o1 + i * 4 + 3, none⟩ = some (.slice z2 m2 k2) ∧ W.cell? ⟨g2, o2 + i * 4, none⟩ = some (.int .i64 u) ∧ W.cell? ⟨g2, o2 + i * 4 + 1, none⟩ = some (.bool t) ∧ W.cell? ⟨g2, o2 + i * 4 + 2, none⟩ = some (.slice y1 n1 j1) ∧ W.cell? ⟨g2, o2 + i * 4 + 3, none⟩ = some (.slice y2 n2 j2) ∧ W.cell? ⟨w.heap.size, 3, none⟩ = some (.slice (some ⟨g1, o1, none⟩) n cp1) ∧ W.cell? ⟨w.heap.size + 1, 3, none⟩ = some (.slice (some ⟨g2, o2, none⟩) n cp2))) (by kernel_rfl) ?_ (fun hHeld => ?_)
      ·exact HK.out _ (below_drew wr)
      refine tkL 0 (v := ?_) ?_ hHeld ?_
      rotate_left 1
      ·intro w' hSw
       (try dsimp only at hSw)
       go_simp
       try with_reducible rfl
      try simp only [Act.put, zA, zB, zC, zD, zE, zF]
      refine tkL 1 (v := ?_) ?_ hHeld ?_
      rotate_left 1
      ·intro w' hSw
       (try dsimp only at hSw)
       go_simp
       try with_reducible rfl
      try simp only [Act.put, zA, zB, zC, zD, zE, zF]
      refine tkL 2 (v := ?_) ?_ hHeld ?_
      rotate_left 1
      ·intro w' hSw
       (try dsimp only at hSw)
       go_simp
       try with_reducible rfl
      try simp only [Act.put, zA, zB, zC, zD, zE, zF]
      refine tkL 3 (v := ?_) ?_ hHeld ?_
      rotate_left 1
      ·intro w' hSw
       (try dsimp only at hSw)
       go_simp
       try with_reducible rfl
      try simp only [Act.put, zA, zB, zC, zD, zE, zF]
      refine tkL 4 (v := ?_) ?_ hHeld ?_
      rotate_left 1
      ·intro w' hSw
       (try dsimp only at hSw)
       go_simp
       try with_reducible rfl
      try simp only [Act.put, zA, zB, zC, zD, zE, zF]
      refine tkL 5 (v := ?_) ?_ hHeld ?_
      rotate_left 1
      ·intro w' hSw
       (try dsimp only at hSw)
       go_simp
       try with_reducible rfl
      try simp only [Act.put, zA, zB, zC, zD, zE, zF]
      refine tkL 6 (v := ?_) ?_ hHeld ?_
      rotate_left 1
      ·intro w' hSw
       (try dsimp only at hSw)
       go_simp
       try with_reducible rfl
      try simp only [Act.put, zA, zB, zC, zD, zE, zF]
      refine tkL 7 (v := ?_) ?_ hHeld ?_
      rotate_left 1
      ·intro w' hSw
       (try dsimp only at hSw)
       go_simp
       try with_reducible rfl
      try simp only [Act.put, zA, zB, zC, zD, zE, zF]
      refine tkL 8 (v := ?_) ?_ hHeld ?_
      rotate_left 1
      ·intro w' hSw
       (try dsimp only at hSw)
       go_simp
       try with_reducible rfl
      try simp only [Act.put, zA, zB, zC, zD, zE, zF]
      refine tkL 9 (v := ?_) ?_ hHeld ?_
      rotate_left 1
      ·intro w' hSw
       (try dsimp only at hSw)
       go_simp
       try with_reducible rfl
      try simp only [Act.put, zA, zB, zC, zD, zE, zF]
      refine tkL 10 (v := ?_) ?_ hHeld ?_
      rotate_left 1
      ·intro w' hSw
       (try dsimp only at hSw)
       go_simp
       try with_reducible rfl
      try simp only [Act.put, zA, zB, zC, zD, zE, zF]
      refine tkL 11 (v := ?_) ?_ hHeld ?_
      rotate_left 1
      ·intro w' hSw
       (try dsimp only at hSw)
       go_simp
       try with_reducible rfl
      try simp only [Act.put, zA, zB, zC, zD, zE, zF]
      refine tkL 12 (v := ?_) ?_ hHeld ?_
      rotate_left 1
      ·intro w' hSw
       (try dsimp only at hSw)
       go_simp
       try with_reducible rfl
      try simp only [Act.put, zA, zB, zC, zD, zE, zF]
      refine tkL 13 (v := ?_) ?_ hHeld ?_
      rotate_left 1
      ·intro w' hSw
       (try dsimp only at hSw)
       go_simp
       try with_reducible rfl
      try simp only [Act.put, zA, zB, zC, zD, zE, zF]
      refine tkL 14 (v := ?_) ?_ hHeld ?_
      rotate_left 1
      ·intro w' hSw
       (try dsimp only at hSw)
       go_simp
       try with_reducible rfl
      try simp only [Act.put, zA, zB, zC, zD, zE, zF]
      refine tkL 15 (v := ?_) ?_ hHeld ?_
      rotate_left 1
      ·intro w' hSw
       (try dsimp only at hSw)
       go_simp
       try with_reducible rfl
      try simp only [Act.put, zA, zB, zC, zD, zE, zF]
      refine tkL 16 (v := ?_) ?_ hHeld ?_
      rotate_left 1
      ·intro w' hSw
       (try dsimp only at hSw)
       go_simp
       try with_reducible rfl
      try simp only [Act.put, zA, zB, zC, zD, zE, zF]
      refine tkL 17 (v := ?_) ?_ hHeld ?_
      rotate_left 1
      ·intro w' hSw
       (try dsimp only at hSw)
       go_simp
       try with_reducible rfl
      try simp only [Act.put, zA, zB, zC, zD, zE, zF]
      refine tkL 18 (v := ?_) ?_ hHeld ?_
      rotate_left 1
      ·intro w' hSw
       (try dsimp only at hSw)
       go_simp
       try with_reducible rfl
      try simp only [Act.put, zA, zB, zC, zD, zE, zF]
      refine tkL 19 (v := ?_) ?_ hHeld ?_
      rotate_left 1
      ·intro w' hSw
       (try dsimp only at hSw)
       go_simp
       try with_reducible rfl
      try simp only [Act.put, zA, zB, zC, zD, zE, zF]
      refine tkL 20 (v := ?_) ?_ hHeld ?_
      rotate_left 1
      ·intro w' hSw
       (try dsimp only at hSw)
       go_simp
       try with_reducible rfl
      try simp only [Act.put, zA, zB, zC, zD, zE, zF]
      refine tkL 21 (v := ?_) ?_ hHeld ?_
      rotate_left 1
      ·intro w' hSw
       (try dsimp only at hSw)
       go_simp
       try with_reducible rfl
      try simp only [Act.put, zA, zB, zC, zD, zE, zF]
      refine tkL 22 (v := ?_) ?_ hHeld ?_
      rotate_left 1
      ·intro w' hSw
       (try dsimp only at hSw)
       go_simp
       try with_reducible rfl
      try simp only [Act.put, zA, zB, zC, zD, zE, zF]
      refine tkL 23 (v := ?_) ?_ hHeld ?_
      rotate_left 1
      ·intro w' hSw
       (try dsimp only at hSw)
       go_simp
       try with_reducible rfl
      try simp only [Act.put, zA, zB, zC, zD, zE, zF]
      refine tkL 24 (v := ?_) ?_ hHeld ?_
      rotate_left 1
      ·intro w' hSw
       (try dsimp only at hSw)
       go_simp
       try with_reducible rfl
      try simp only [Act.put, zA, zB, zC, zD, zE, zF]
      refine tkL 25 (v := ?_) ?_ hHeld ?_
      rotate_left 1
      ·intro w' hSw
       (try dsimp only at hSw)
       go_simp
       try with_reducible rfl
      try simp only [Act.put, zA, zB, zC, zD, zE, zF]
      refine rdy [26] ?_
      refine AllReadyH.cons (by rfl) (fun K hK => ?_) AllReadyH.nil
      go_simp
      refine HCS.out.mono ?_
      rintro e w7 ⟨rfl, hb7⟩
      have HB7 := Lib.hid (HB.out.trans (((below_drew wr).trans (hb7.out.mono (Nat.le_refl _))).mono HB.out.size))
      have HS7 := Lib.hid (HK.out _ ((below_drew wr).trans (hb7.out.mono (Nat.le_refl _))))
      clear hb7
      refine hK.out _ _ ?_ (fun hHeld => ?_)
      ·exact HS7.out
      clear hK K
      try simp only [Act.put, zA, zB, zC, zD, zE, zF]
      refine tkL 27 (v := ?_) ?_ hHeld ?_
      rotate_left 1
      ·intro w' hSw
       (try dsimp only at hSw)
       go_simp
       try with_reducible rfl
      try simp only [Act.put, zA, zB, zC, zD, zE, zF]
      refine tkL 28 (v := ?_) ?_ hHeld ?_
      rotate_left 1
      ·intro w' hSw
       (try dsimp only at hSw)
       go_simp
       try with_reducible rfl
      try simp only [Act.put, zA, zB, zC, zD, zE, zF]
      refine wpAnyH_done (by kernel_rfl) ?_ _
      clear hHeld HS7
      by_cases hq2 : xq = yq
      ·have HT := Lib.hid (HTK.out hq2)
       rw [decide_eq_true hq2]
       clear hq2
       go_wp2_with fail
       go_roundw
       case rel => exact ⟨i + 1, by omega, by go_num, HB7, HT⟩
       case measure => first | exact measure_next hiw hlt | exact measure_next rfl hlt
      ·have HF := Lib.hid (HNE.out hq2)
       rw [decide_eq_false hq2]
       clear hq2
       go_wp2_with fail
       go_ret
       exact GivesV.mk' (by rw [HF.out]; rfl) (HB0.out.trans (HB7.out.mono HB0.out.size))
     ·have hne : (v != u) = true := by simpa using huv
      have HF : Hid (decide (c1 = c2 ∧ ms1 = ms2) = false) := Lib.hid (decide_eq_false fun e2 => differ_at hx hy (fun e3 => huv (congrArg Prod.fst e3)) e2.2)
      clear hr hr' hd hd' hx hy hq hq' huv
      go_wp2_with fail
      go_quiet (fail)
      have HBN := Lib.hid (HBW.out.trans ((Below.drewN' (Below.refl wr.heap.size wr) nq).mono HBW.out.size))
      go_wp2_with fail
      go_ret
      exact GivesV.mk' (by rw [HF.out]; rfl) HBN.out
    ·obtain rfl : i = n := by omega
     obtain ⟨_, _, _, c3, _⟩ := cellsL4 (stayL HBX.out.1 HB.out)
     have HE : Hid (decide (c1 = c2 ∧ ms1 = ms2) = true) := Lib.hid (decide_eq_true ⟨HCC.out, by
      have h1 := HT.out
      rwa [List.take_of_length_le (by have := HLE.out; omega), List.take_of_length_le (by have := HLE.out; omega)] at h1⟩)
     go_wp2_with fail
     go_ret
     exact GivesV.mk' (by rw [HE.out]; rfl) HBW.out
  ·have hne : ¬ ((n : Int) = (n' : Int)) := by omega
   have hnb : ((n : Int) != (n' : Int)) = true := by simpa using hne
   have HF : Hid (decide (c1 = c2 ∧ ms1 = ms2) = false) := Lib.hid (decide_eq_false fun e => hnn (by have := HLE.out; rw [e.2] at this; omega))
   rw [decide_eq_true hc]
   clear hnn hc
   go_wp2_with fail
   go_ret
   exact GivesV.mk' (by rw [HF.out]; rfl) HB5.out
 ·have HF : Hid (decide (c1 = c2 ∧ ms1 = ms2) = false) := Lib.hid (decide_eq_false fun e => hc e.1)
  rw [decide_eq_false hc]
  clear hc
  go_wp2_with fail
  go_ret
  exact GivesV.mk' (by rw [HF.out]; rfl) HB5.out
end Go.Proofs.YtpjeecahaeaajaaGreatDoor

set_option linter.unusedVariables false
set_option linter.unusedSimpArgs false
namespace Go.Proofs.YtpjeecahaeaajaaGreatDoor
open Go.RowKit Rep Ln
def fitsP (m : Nat) (c : Rat) (ms : List Mo) : Bool := !ovQ m c && ms.all fun x => !ovQ m x.2
theorem fits_one {W : World} {q : Rat} {s : Bool} {z1 z2 : Option Addr} {m1 k1 m2 k2 m : Nat} (h : VQ q (s, (z1, m1, k1), (z2, m2, k2)) W) (hs : szQ q ≤ 100000) (hm : m ≤ 9223372036854775807) :
    Calls Tryz.prog 52 #[.agg #[.bool s, .slice z1 m1 k1, .slice z2 m2 k2], .int .i64 (m : Int)] W (GivesB (!ovQ m q) W) := by
 obtain ⟨h0, h1, h2, h3⟩ := h
 dsimp only at h0 h1 h2 h3
 unfold szQ at hs
 refine (Fits_any (w := W) (s := s) (a1 := z1) (a2 := z2) (l1 := m1) (c1 := k1) (l2 := m2) (c2 := k2) (m := m) (by omega) (by omega) (by omega)).mono fun e W' hg => ?_
 have e1 : (!(decide (m < m1) || decide (m < m2))) = !ovQ m q := by
  unfold ovQ rO
  rw [h1, h2]
 rw [← e1]
 exact hg
theorem finDL {w W0 W : World} {q : Rat} {s : Bool} {z1 z2 : Option Addr} {m1 k1 m2 k2 R : Nat} (hB0 : Below w.heap.size w W0) (hR : w.heap.size ≤ R) (h3 : BlankD W0 R) (h : Below W0.heap.size W0 W) (hv : VD q (s, (z1, m1, k1), (z2, m2, k2)) W) :
    GotD w q (.returned (.agg #[.bool s, .slice z1 m1 k1, .slice z2 m2 k2])) (set3 W R s (.slice z1 m1 k1) (.slice z2 m2 k2)) :=
 ⟨s, z1, m1, k1, z2, m2, k2, rfl, Lib.hid (set3_below (hB0.trans (h.mono hB0.size)) hR), Lib.hid (hv.set3 (h3.kept h) _ _ _)⟩
theorem coef_drop {ms : List Mo} {i : Nat} {x : Mo} {v : Int} (h : ms[i]? = some x) : coef (ms.drop i) v = if x.1 = v then x.2 else coef (ms.drop (i + 1)) v := by
 rw [drop_at h]
 rfl
theorem all_take {p : Mo → Bool} {ms : List Mo} {i : Nat} {x : Mo} (h : ms[i]? = some x) (ht : (ms.take i).all p = true) (hp : p x = true) : (ms.take (i + 1)).all p = true := by
 rw [List.take_add_one, h, List.all_append, ht]
 simp [hp]
theorem all_no {p : Mo → Bool} {ms : List Mo} {i : Nat} {x : Mo} (h : ms[i]? = some x) (hp : p x = false) : ms.all p = false := by
 rw [List.all_eq_false]
 exact ⟨x, List.mem_of_getElem? h, by simp [hp]⟩
set_option maxRecDepth 100000 in
set_option maxHeartbeats 4000000 in
theorem RFits_any {w : World} {c : Rat} {ms : List Mo} {ps : Bool} {pa pb : Option Addr} {pl pc pk pe : Nat} {a : Option Addr} {cp m : Nat} {rs : List RM}
    (hp : PolyAt c ms (ps, (pa, pl, pc), (pb, pk, pe)) a rs w) (z : szQ c ≤ 100000) (zm : ∀ x ∈ ms, szQ x.2 ≤ 100000) (hn : rs.length ≤ 1000) (hm : m ≤ 9223372036854775807) :
    Calls Tryz.prog 29 #[.agg #[.bool ps, .slice pa pl pc, .slice pb pk pe, .slice a rs.length cp], .int .i64 (m : Int)] w (GivesV (.bool (fitsP m c ms)) w) := by
 obtain ⟨W0, hW0⟩ : ∃ W0, W0 = w.alloc (.cells #[.bool ps, .slice pa pl pc, .slice pb pk pe, .slice a rs.length cp] 30) := ⟨_, rfl⟩
 have hB0 : Below w.heap.size w W0 := by rw [hW0]; exact (Below.refl _ _).alloc (Nat.le_refl _) _
 have b0 : W0.heap[w.heap.size]? = some (.cells #[.bool ps, .slice pa pl pc, .slice pb pk pe, .slice a rs.length cp] 30 (0, 0)) := by rw [hW0]; exact heap_alloc_new w _
 have hp0 := hp.kept hB0
 have HFC := Lib.hid (fits_one hp0.num z hm)
 have HB0 := Lib.hid hB0
 have HM := Lib.hid (And.intro hp0.ms (And.intro zm hp.ms.len))
 have HMM := Lib.hid hm
 have HW0 := Lib.hid hW0
 obtain ⟨n, hnn⟩ : ∃ n, rs.length = n := ⟨_, rfl⟩
 rw [hnn] at hn hW0 HW0 b0 HM ⊢
 have HBX := Lib.hid b0
 obtain ⟨q0, q1, q2, q3, _⟩ := cellsL4 b0
 rw [hW0] at q0 q1 q2 q3
 clear hp z zm hB0 b0 hp0 hnn hW0 hm
 go_enter Tryz.func29, Tryz.ntmps29
 go_wp2_with fail
 rw [← HW0.out]
 refine HFC.out.mono ?_
 rintro e w5 ⟨rfl, hb5⟩
 have HB5 := Lib.hid (HB0.out.trans (hb5.mono HB0.out.size))
 have HB05 := Lib.hid hb5
 obtain ⟨q0', q1', q2', q3', _⟩ := cellsL4 (stayL HBX.out hb5)
 clear q0 q1 q2 q3 hb5 HFC
 cases hov : ovQ m c
 ·have HC0 := Lib.hid hov
  clear hov
  go_wp2_with fail
  go_loopw [5] (fun (iv : Value) (wr : World) => ∃ i : Nat, i ≤ n ∧ iv = .int .i64 (i : Int) ∧ Hid (Below W0.heap.size W0 wr) ∧ Hid ((ms.take i).all (fun x => !ovQ m x.2) = true)) (fun iv _ => n - (intOf iv).toNat)
  case atStart => exact ⟨0, Nat.zero_le _, rfl, HB05, Lib.hid rfl⟩
  case round =>
   obtain ⟨i, hin, rfl, HB, HT⟩ := hrel
   clear q0' q1' q2' q3'
   have HBW := Lib.hid (HB0.out.trans (HB.out.mono HB0.out.size))
   obtain ⟨_, _, _, c3, _⟩ := cellsL4 (stayL HBX.out HB.out)
   by_cases hlt : i < n
   ·obtain ⟨d, x, g, off, hd, hx, rfl, hok, hr⟩ := (HM.out.1.kept HB.out).get (k := i) (by have := HM.out.2.2; omega)
    have hzx := HM.out.2.1 x (List.mem_of_getElem? hx)
    obtain ⟨v, s, z1, m1, k1, z2, m2, k2⟩ := d
    obtain ⟨xv, xq⟩ := x
    obtain ⟨hv, hq⟩ := hok
    dsimp only [RM.raw] at hv hq hzx
    subst hv
    have HF := Lib.hid (fits_one hq hzx HMM.out)
    obtain ⟨f0, f1, f2, f3⟩ := range_cells4 hr
    have HX := Lib.hid hx
    have hii : (i : Int) < (n : Int) := by omega
    have hiw : wrap64 ((i : Int) + 1) = (i : Int) + 1 := IntWalk.wrap64_in _ (by omega)
    clear hr hd hx hq hzx
    cases ho : ovQ m xq
    ·have HT2 := Lib.hid (all_take HX.out HT.out (show (!ovQ m xq) = true by rw [ho]; rfl))
     rw [ho] at HF
     clear ho
     go_wp2_with fail
     refine HF.out.mono ?_
     rintro e w7 ⟨rfl, hb7⟩
     have HB7 := Lib.hid (HB.out.trans (hb7.mono HB.out.size))
     clear hb7
     go_wp2_with fail
     go_roundw
     case rel => exact ⟨i + 1, by omega, by go_num, HB7, HT2⟩
     case measure => first | exact measure_next hiw hlt | exact measure_next rfl hlt
    ·have HE : Hid (fitsP m c ms = false) := Lib.hid (by unfold fitsP; rw [all_no HX.out (p := fun x => !ovQ m x.2) (by dsimp only; rw [ho]; rfl)]; simp)
     rw [ho] at HF
     clear ho
     go_wp2_with fail
     refine HF.out.mono ?_
     rintro e w7 ⟨rfl, hb7⟩
     have HB7 := Lib.hid (HBW.out.trans (hb7.mono HBW.out.size))
     clear hb7
     go_wp2_with fail
     go_ret
     exact GivesV.mk' (by rw [HE.out]; rfl) HB7.out
   ·obtain rfl : i = n := by omega
    have HE : Hid (fitsP m c ms = true) := Lib.hid (by
     have h1 := HT.out
     rw [List.take_of_length_le (by have := HM.out.2.2; omega)] at h1
     unfold fitsP
     rw [h1, HC0.out]; rfl)
    go_wp2_with fail
    go_ret
    exact GivesV.mk' (by rw [HE.out]; rfl) HBW.out
 ·have HE : Hid (fitsP m c ms = false) := Lib.hid (by unfold fitsP; rw [hov]; rfl)
  clear hov
  go_wp2_with fail
  go_ret
  exact GivesV.mk' (by rw [HE.out]; rfl) HB5.out
set_option maxRecDepth 100000 in
set_option maxHeartbeats 4000000 in
theorem RCoef_any {w : World} {c : Rat} {ms : List Mo} {ps : Bool} {pa pb : Option Addr} {pl pc pk pe : Nat} {a : Option Addr} {cp : Nat} {rs : List RM} {v : Int}
    (hp : PolyAt c ms (ps, (pa, pl, pc), (pb, pk, pe)) a rs w) (zm : ∀ x ∈ ms, szQ x.2 ≤ 100) (hn : rs.length ≤ 1000) :
    Calls Tryz.prog 38 #[.agg #[.bool ps, .slice pa pl pc, .slice pb pk pe, .slice a rs.length cp], .int .i64 v] w (GotD w (coef ms v)) := by
 obtain ⟨W0, hW0, hB0, b0, b1, hs⟩ := boxes2 w #[.bool ps, .slice pa pl pc, .slice pb pk pe, .slice a rs.length cp] #[.bool false, .slice none 0 0, .slice none 0 0] 30 42
 have hp0 := hp.kept hB0
 have HB0 := Lib.hid hB0
 have HM := Lib.hid (And.intro hp0.ms (And.intro zm hp.ms.len))
 have HW0 := Lib.hid hW0
 obtain ⟨n, hnn⟩ : ∃ n, rs.length = n := ⟨_, rfl⟩
 rw [hnn] at hn hW0 HW0 b0 HM ⊢
 have HBX := Lib.hid (And.intro b0 b1)
 have hs' := hs
 clear hp zm hB0 b0 b1 hp0 hnn hW0 hs
 go_enter Tryz.func38, Tryz.ntmps38
 go_wp2_with fail
 rw [← HW0.out]
 go_loopw [5] (fun (iv : Value) (wr : World) => ∃ i : Nat, i ≤ n ∧ iv = .int .i64 (i : Int) ∧ Hid (Below W0.heap.size W0 wr) ∧ Hid (coef ms v = coef (ms.drop i) v)) (fun iv _ => n - (intOf iv).toNat)
 case atStart => exact ⟨0, Nat.zero_le _, rfl, Lib.hid (Below.refl _ _), Lib.hid rfl⟩
 case round =>
  obtain ⟨i, hin, rfl, HB, HT⟩ := hrel
  have HBW := Lib.hid (HB0.out.trans (HB.out.mono HB0.out.size))
  obtain ⟨_, _, _, c3, _⟩ := cellsL4 (stayL HBX.out.1 HB.out)
  by_cases hlt : i < n
  ·obtain ⟨d, x, g, off, hd, hx, rfl, hok, hr⟩ := (HM.out.1.kept HB.out).get (k := i) (by have := HM.out.2.2; omega)
   have hzx := HM.out.2.1 x (List.mem_of_getElem? hx)
   obtain ⟨xv', s, z1, m1, k1, z2, m2, k2⟩ := d
   obtain ⟨xv, xq⟩ := x
   obtain ⟨hv, hq⟩ := hok
   dsimp only [RM.raw] at hv hq hzx
   subst hv
   have HF := Lib.hid (got_of (W5 := wr) hq hzx (Below.refl _ _))
   obtain ⟨f0, f1, f2, f3⟩ := range_cells4 hr
   have hcd := HT.out.trans (coef_drop hx)
   have hii : (i : Int) < (n : Int) := by omega
   have hiw : wrap64 ((i : Int) + 1) = (i : Int) + 1 := IntWalk.wrap64_in _ (by omega)
   clear hr hd hx hq hzx
   by_cases he : xv' = v
   ·have hee : (xv' == v) = true := by simpa using he
    have HC : Hid (coef ms v = xq) := Lib.hid (by rw [hcd]; exact if_pos he)
    clear he hcd
    go_wp2_with fail
    refine HF.out.mono ?_
    rintro e w7 ⟨s8, e1, h1, g1, e2, h2, g2, rfl, hb7, hv7⟩
    have hb07 := HB.out.trans (hb7.out.mono HB.out.size)
    have HE := Lib.hid (finDL (R := w.heap.size + 1) HB0.out (by omega) HBX.out.2 hb07 hv7.out)
    rw [← HC.out] at HE
    obtain ⟨r0, r1, r2, n0, n1, n2⟩ := cells3 (stayL HBX.out.2 hb07)
    clear hb7 hv7 hb07 HF f0 f1 f2 f3
    go_wp2_with fail
    exact bodyPost_ret (v := .agg #[.bool s8, .slice e1 h1 g1, .slice e2 h2 g2]) (by simp [results, Tryz.results38, go_sem, r0, r1, r2]) rfl HE.out
   ·have hee : (xv' == v) = false := by simpa using he
    have HC : Hid (coef ms v = coef (ms.drop (i + 1)) v) := Lib.hid (by rw [hcd]; exact if_neg he)
    clear he hcd
    go_wp2_with fail
    go_roundw
    case rel => exact ⟨i + 1, by omega, by go_num, HB, HC⟩
    case measure => first | exact measure_next hiw hlt | exact measure_next rfl hlt
  ·obtain rfl : i = n := by omega
   have HC : Hid (coef ms v = 0) := Lib.hid (by
    rw [HT.out, List.drop_eq_nil_of_le (by have := HM.out.2.2; omega)]; rfl)
   have HI := Lib.hid ((Int0_q wr).mono fun e W' hg => hg.got (Below.refl wr.heap.size wr))
   go_wp2_with fail
   refine HI.out.mono ?_
   rintro e w7 ⟨s8, e1, h1, g1, e2, h2, g2, rfl, hb7, hv7⟩
   have hb07 := HB.out.trans (hb7.out.mono HB.out.size)
   have HE := Lib.hid (finDL (R := w.heap.size + 1) HB0.out (by omega) HBX.out.2 hb07 hv7.out)
   rw [← HC.out] at HE
   obtain ⟨r0, r1, r2, n0, n1, n2⟩ := cells3 (stayL HBX.out.2 hb07)
   clear hb7 hv7 hb07 HI
   go_wp2_with fail
   exact bodyPost_ret (v := .agg #[.bool s8, .slice e1 h1 g1, .slice e2 h2 g2]) (by simp [results, Tryz.results38, go_sem, r0, r1, r2]) rfl HE.out
end Go.Proofs.YtpjeecahaeaajaaGreatDoor

set_option linter.unusedVariables false
set_option linter.unusedSimpArgs false
namespace Go.Proofs.YtpjeecahaeaajaaGreatDoor
open Go.RowKit Rep Ln
structure HM where
 v : Int
 s : Bool
 a1 : Option Addr
 c1 : Nat
 xs : List Nat
 a2 : Option Addr
 c2 : Nat
 ds : List Nat
def HM.cells (d : HM) : List Value := [.int .i64 d.v, .bool d.s, .slice d.a1 d.xs.length d.c1, .slice d.a2 d.ds.length d.c2]
def HM.right (d : HM) : Bool := rightB d.s d.xs d.ds
def rightMs : Int → List HM → Bool
 | _, [] => true
 | p, d :: l => decide (p < d.v) && (d.right && (decide (d.xs.length ≠ 0) && rightMs d.v l))
structure HMs (w : World) (a : Option Addr) (hs : List HM) : Prop where
 mem : hs = [] ∨ ∃ g off, a = some ⟨g, off, none⟩ ∧ ∀ (k : Nat) (d : HM), hs[k]? = some d → w.rangeAt g (off + k * 4) d.cells
 nums : ∀ d ∈ hs, HandR w d.a1 d.c1 d.xs d.a2 d.c2 d.ds ∧ d.xs.length ≤ 2000000 ∧ d.ds.length ≤ 2000000
section
variable {w w' : World} {a : Option Addr} {hs : List HM}
theorem HMs.kept (h : HMs w a hs) (hb : Below w.heap.size w w') : HMs w' a hs := by
 refine ⟨?_, fun d hd => ⟨(h.nums d hd).1.kept hb, (h.nums d hd).2⟩⟩
 rcases h.mem with e | ⟨g, off, e, hr⟩
 ·exact .inl e
 ·exact .inr ⟨g, off, e, fun k d hd => rangeAt_kept (hr k d hd) hb (rangeAt_lt (hr k d hd) (by simp [HM.cells]))⟩
theorem HMs.get (h : HMs w a hs) {k : Nat} (hk : k < hs.length) : ∃ (d : HM) (g off : Nat), hs[k]? = some d ∧ a = some ⟨g, off, none⟩ ∧ HandR w d.a1 d.c1 d.xs d.a2 d.c2 d.ds ∧ d.xs.length ≤ 2000000 ∧ d.ds.length ≤ 2000000 ∧ w.rangeAt g (off + k * 4) d.cells := by
 have hd : hs[k]? = some hs[k] := List.getElem?_eq_getElem hk
 have hn := h.nums _ (List.mem_of_getElem? hd)
 rcases h.mem with e | ⟨g, off, e, hr⟩
 ·rw [e] at hk; simp at hk
 ·exact ⟨_, g, off, hd, e, hn.1, hn.2.1, hn.2.2, hr k _ hd⟩
theorem rightMs_at {p : Int} {i : Nat} {d : HM} (h : hs[i]? = some d) : rightMs p (hs.drop i) = (decide (p < d.v) && (d.right && (decide (d.xs.length ≠ 0) && rightMs d.v (hs.drop (i + 1))))) := by
 have hi : i < hs.length := (List.getElem?_eq_some_iff.1 h).1
 rw [List.drop_eq_getElem_cons hi, (List.getElem?_eq_some_iff.1 h).2]
 rfl
theorem Handed.inL {a : Option Addr} {c : Nat} {xs : List Nat} (h : Handed w a c xs) (hl : xs.length ≤ 2000000) : NumIn w a c xs := ⟨h.lim, h.reads, h.le, h.cap, by omega⟩
theorem right_hand {s : Bool} {a1 a2 : Option Addr} {c1 c2 : Nat} {xs ds : List Nat} (h : HandR w a1 c1 xs a2 c2 ds) (lx : xs.length ≤ 2000000) (ld : ds.length ≤ 2000000) :
    Calls Tryz.prog 12 #[.agg #[.bool s, .slice a1 xs.length c1, .slice a2 ds.length c2]] w (GivesB (rightB s xs ds) w) :=
 RightR_any (h.num.inL lx) (h.den.inL ld) lx ld
theorem right_hand7 {W6 : World} {s : Bool} {a1 a2 : Option Addr} {c1 c2 : Nat} {xs ds : List Nat} (h : HandR W6 a1 c1 xs a2 c2 ds) (lx : xs.length ≤ 2000000) (ld : ds.length ≤ 2000000) :
    Calls Tryz.prog 12 #[.agg #[.bool s, .slice a1 xs.length c1, .slice a2 ds.length c2]] W6.drew (fun e W' => e = .returned (.bool (rightB s xs ds)) ∧ Hid (Below W6.heap.size W6 W')) :=
 (right_hand (h.kept (below_drew W6)) lx ld).mono fun e W' hg => ⟨hg.1, Lib.hid ((below_drew W6).trans (hg.2.mono (Nat.le_refl _)))⟩
end
end Go.Proofs.YtpjeecahaeaajaaGreatDoor
