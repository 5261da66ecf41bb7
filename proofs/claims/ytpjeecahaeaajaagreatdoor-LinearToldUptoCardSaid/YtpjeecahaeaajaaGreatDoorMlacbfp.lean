/- By program out of: LnRVal, LnVals. -/
import Derived.Test.YtpjeecahaeaajaaGreatDoorMchbjdg
set_option linter.unusedVariables false
set_option linter.unusedSimpArgs false
namespace Go.Proofs.YtpjeecahaeaajaaGreatDoor
open Go.RowKit Rep Ln
structure VdAt (W1 : World) (V : Nat) (q : Rat) (v : RawR) (W : World) : Prop where
 r : Below W1.heap.size W1 W
 ge : W1.heap.size ≤ V
 blk : W.heap[V]? = some (.cells #[.bool v.1, .slice v.2.1.1 v.2.1.2.1 v.2.1.2.2, .slice v.2.2.1 v.2.2.2.1 v.2.2.2.2] 42 (0, 0))
 num : VD q v W
theorem VD.set3L {q : Rat} {v : RawR} {W : World} {g : Nat} {t : TypeId} {s0 : Bool} {x1 y1 : Option Addr} {x2 x3 y2 y3 : Nat} (h : VD q v W) (hb : W.heap[g]? = some (.cells #[.bool s0, .slice x1 x2 x3, .slice y1 y2 y3] t (0, 0))) (s : Bool) (v1 v2 : Value) : VD q v (Go.Proofs.YtpjeecahaeaajaaGreatDoor.set3 W g s v1 v2) := ⟨h.e0, h.e1, h.e2, h.lies.num.set3 hb _ _ _, h.lies.den.set3 hb _ _ _⟩
theorem vd_store {W1 W : World} {V : Nat} {q : Rat} {s : Bool} {z1 z2 : Option Addr} {m1 k1 m2 k2 : Nat} {t : Bool} {y1 y2 : Option Addr} {n1 j1 n2 j2 : Nat} (h : Below W1.heap.size W1 W) (hB : W.heap[V]? = some (.cells #[.bool t, .slice y1 n1 j1, .slice y2 n2 j2] 42 (0, 0))) (hge : W1.heap.size ≤ V) (hv : VD q (s, (z1, m1, k1), (z2, m2, k2)) W) :
    VdAt W1 V q (s, (z1, m1, k1), (z2, m2, k2)) (set3 W V s (.slice z1 m1 k1) (.slice z2 m2 k2)) :=
 ⟨h.grown (set3_grown _ _ _ _ _) h.size (fun j hj => by cases hj; exact hge), hge, set3_block hB _ _ _, hv.set3L hB _ _ _⟩
theorem got_addL {W5 W : World} {q r : Rat} {s t : Bool} {z1 z2 y1 y2 : Option Addr} {m1 k1 m2 k2 n1 j1 n2 j2 : Nat} (h : VD q (s, (z1, m1, k1), (z2, m2, k2)) W) (g : VD r (t, (y1, n1, j1), (y2, n2, j2)) W) (hq : szQ q ≤ 1000) (hr : szQ r ≤ 1000) (hb : Below W5.heap.size W5 W) :
    Calls Tryz.prog 36 #[.agg #[.bool s, .slice z1 m1 k1, .slice z2 m2 k2], .agg #[.bool t, .slice y1 n1 j1, .slice y2 n2 j2]] W (GotD W5 (q + r)) := by
 obtain ⟨e1, d1⟩ := h.eq
 obtain ⟨e2, d2⟩ := g.eq
 obtain ⟨l1, l2⟩ := dl_q hq
 obtain ⟨l3, l4⟩ := dl_q hr
 rw [e1, e2]
 exact (AddR_q d1 d2 (by omega) (by omega) (by omega) (by omega)).mono fun e W' h => h.got hb
theorem part_sz6 {f : Int → Rat} {c : Rat} {ms : List Mo} (hf : ∀ v, szQ (f v) ≤ 6) (hc : szQ c ≤ 6) (hm : ∀ x ∈ ms, szQ x.2 ≤ 6) : ∀ k, szQ (c + dot f (ms.take k)) ≤ 6 + 18 * k
 | 0 => by simp only [List.take_zero, dot, Rat.add_zero]; omega
 | k + 1 => by
  have ih := part_sz6 hf hc hm k
  cases hx : ms[k]? with
  | none =>
   have h1 : ms.length ≤ k := List.getElem?_eq_none_iff.1 hx
   rw [List.take_of_length_le h1] at ih
   rw [List.take_of_length_le (by omega)]
   omega
  | some x =>
   rw [dot_next hx, ← Rat.add_assoc]
   have h1 := szQ_add (c + dot f (ms.take k)) (x.2 * f x.1)
   have h2 := szQ_mul x.2 (f x.1)
   have h3 := hm x (List.mem_of_getElem? hx)
   have h4 := hf x.1
   omega
set_option maxRecDepth 100000 in
set_option maxHeartbeats 16000000 in
theorem RVal_any {w : World} {c : Rat} {ms : List Mo} {ps : Bool} {pa pb : Option Addr} {pl pc pk pe : Nat} {a : Option Addr} {cp n : Nat} {rs : List RM} {ra : Option Addr} {rc m : Nat} {rr : List RawR} {qs : List Rat}
    (hp : PolyAt c ms (ps, (pa, pl, pc), (pb, pk, pe)) a rs w) (hr : RsAt w ra rr qs) (zc : szQ c ≤ 6) (zm : ∀ y ∈ ms, szQ y.2 ≤ 6) (zr : ∀ q ∈ qs, szQ q ≤ 6) (hn : n ≤ 12) (e1 : rs.length = n) (e2 : rr.length = m) (hm : m ≤ 50) (hbad : badM m ms = false) :
    Calls Tryz.prog 25 #[.agg #[.bool ps, .slice pa pl pc, .slice pb pk pe, .slice a n cp], .slice ra m rc] w (GotD w (c + dot (atQ qs) ms)) := by
 obtain ⟨W0, hW0, hB0, b0, b1, hsz⟩ := boxes2 w #[.bool ps, .slice pa pl pc, .slice pb pk pe, .slice a n cp] #[.bool false, .slice none 0 0, .slice none 0 0] 30 42
 have hl : ms.length = n := by rw [← e1, hp.ms.len]
 have HC1 := Lib.hid (got_of (W5 := W0) (hp.kept hB0).num (by omega) (Below.refl _ _))
 have HZ := Lib.hid (And.intro zc (And.intro zm (And.intro zr (And.intro hn (And.intro e1 (And.intro e2 (And.intro hm (And.intro hl hbad))))))))
 have HPR := Lib.hid (And.intro (hp.kept hB0) (hr.kept hB0))
 have HBK := Lib.hid (And.intro b0 (And.intro b1 (And.intro hB0 hsz)))
 have HW0 := Lib.hid hW0
 obtain ⟨q0, q1, q2, q3, _⟩ := cellsL4 b0
 obtain ⟨s0, s1, s2, u0, u1, u2⟩ := cells3 b1
 rw [hW0] at q0 q1 q2 q3 s0 s1 s2 u0 u1 u2
 clear hp hr zc zm zr e1 e2 hl hB0 b0 b1 hsz hW0 hbad
 go_enter Tryz.func25, Tryz.ntmps25
 go_wp2_with fail
 rw [← HW0.out]
 refine HC1.out.mono ?_
 rintro e w1 ⟨os, oa, ol, oc, ob, ok, oe, rfl, hb1, ho1⟩
 clear q0 q1 q2 q3 s0 s1 s2 u0 u1 u2 HC1
 have HPR1 := Lib.hid (And.intro (HPR.out.1.kept hb1.out) (HPR.out.2.kept hb1.out))
 have b0 := stayL HBK.out.1 hb1.out
 have b1 := stayL HBK.out.2.1 hb1.out
 have HBK1 : Hid (w1.heap[w.heap.size]? = _ ∧ w1.heap[w.heap.size + 1]? = _ ∧ Below w.heap.size w w1 ∧ w.heap.size + 1 + 1 ≤ w1.heap.size) := Lib.hid ⟨b0, b1, HBK.out.2.2.1.trans (hb1.out.mono HBK.out.2.2.1.size), by have := hb1.out.size; have := HBK.out.2.2.2; omega⟩
 have hal := (Below.refl w1.heap.size w1).alloc (Nat.le_refl _) (.cells #[.bool os, .slice oa ol oc, .slice ob ok oe] 42)
 obtain ⟨w2, hw2⟩ : ∃ X, X = w1.alloc (.cells #[.bool os, .slice oa ol oc, .slice ob ok oe] 42) := ⟨_, rfl⟩
 have hkv := cells_of w1 #[.bool os, .slice oa ol oc, .slice ob ok oe] 42
 rw [← hw2] at hal hkv
 obtain ⟨V, hV⟩ : ∃ V, w1.heap.size = V := ⟨_, rfl⟩
 have HVL : Hid (VdAt w1 V (c + dot (atQ qs) (ms.take 0)) (os, (oa, ol, oc), (ob, ok, oe)) w2) := Lib.hid ⟨hal, by omega, by rw [← hV]; exact hkv, by simp only [List.take_zero, dot, Rat.add_zero]; exact ho1.out.kept hal⟩
 have HW2 := Lib.hid hw2
 have HFS : Hid (∀ v, szQ (atQ qs v) ≤ 6) := Lib.hid (atQ_sz HZ.out.2.2.1)
 clear hal hkv hw2 b0 b1 hb1 ho1 HPR HBK
 go_wp2_with fail
 rw [← HW2.out]
 have HVV := Lib.hid hV
 clear hV
 generalize hf : atQ qs = f at *
 have HF := Lib.hid hf
 clear hf
 go_loopw [6] (fun (iv : Value) (wr : World) => ∃ k : Nat, k ≤ n ∧ iv = .int .i64 (k : Int) ∧ ∃ r, Hid (VdAt w1 V (c + dot f (ms.take k)) r wr)) (fun iv _ => n - (intOf iv).toNat)
 case atStart => exact ⟨0, Nat.zero_le _, rfl, _, HVL⟩
 case round =>
  obtain ⟨k, hkn, rfl, ⟨vs, ⟨va, vl, vc⟩, ⟨vb, vk, ve⟩⟩, HV⟩ := hrel
  have hq3 : wr.cell? ⟨w.heap.size, 3, none⟩ = some (.slice a n cp) := by
   obtain ⟨_, _, _, x3, _⟩ := cellsL4 (stayL HBK1.out.1 HV.out.r)
   exact x3
  by_cases hlt : k < n
  ·obtain ⟨d, x, g, off, hd, hx, hga, hok, hcell⟩ := HPR1.out.1.ms.get (k := k) (by rw [HZ.out.2.2.2.2.2.2.2.1]; exact hlt)
   have hin : 0 ≤ x.1 ∧ x.1 < (m : Int) := by
    have h1 := HZ.out.2.2.2.2.2.2.2.2
    unfold badM at h1
    rw [List.any_eq_false] at h1
    have h2 := h1 x (List.mem_of_getElem? hx)
    unfold badV at h2
    simp at h2
    omega
   obtain ⟨j, hj⟩ : ∃ j : Nat, x.1 = (j : Int) := ⟨x.1.toNat, by omega⟩
   have hjm : j < m := by omega
   have hql : qs.length = m := by rw [← HPR1.out.2.len]; exact HZ.out.2.2.2.2.2.1
   obtain ⟨es, ea, el, ec, eb, ek, ee, q, rg, ro, hqq, hra, hvq, r0, r1, r2⟩ := HPR1.out.2.get (k := j) (by rw [hql]; exact hjm)
   have hfx : f x.1 = q := by
    rw [← HF.out, hj]
    unfold atQ
    rw [List.getD_eq_getElem?_getD, Int.toNat_natCast, hqq]
    rfl
   obtain ⟨v, ds, da, dl, dc, db, dk, de⟩ := d
   obtain ⟨hv, hq⟩ := hok
   dsimp only [RM.raw] at hv hq hga
   obtain rfl : v = (j : Int) := by rw [hv, hj]
   subst hga hra
   have hbr := HV.out.r
   obtain ⟨e0, e1, e2, e3⟩ := range_cells4 hcell
   dsimp only at e0 e1 e2 e3
   have hws : w1.heap.size ≤ V ∧ V < wr.heap.size := ⟨HV.out.ge, (Array.getElem?_eq_some_iff.1 HV.out.blk).1⟩
   have hrg : rg < w1.heap.size := World.block_lt_of_cell? _ _ r1
   have hgg : g < w1.heap.size := World.block_lt_of_cell? _ _ e1
   have hwl := HBK1.out.2.2.2
   have HW1 := Lib.hid hbr
   have HGE := Lib.hid HV.out.ge
   have HVB : Hid (∀ W, Below wr.heap.size wr W → W.heap[V]? = some (.cells #[.bool vs, .slice va vl vc, .slice vb vk ve] 42 (0, 0))) := Lib.hid fun W h => stayL HV.out.blk h
   have HKS2 : Hid (∀ W, Below wr.heap.size wr W → (fun w' => (w'.cell? ⟨w.heap.size, 3, none⟩ = some (.slice (some ⟨g, off, none⟩) n cp)) ∧ (w'.cell? ⟨g, off + k * 4, none⟩ = some (.int .i64 (j : Int)) ∧ w'.cell? ⟨g, off + k * 4 + 1, none⟩ = some (.bool ds) ∧ w'.cell? ⟨g, off + k * 4 + 2, none⟩ = some (.slice da dl dc) ∧ w'.cell? ⟨g, off + k * 4 + 3, none⟩ = some (.slice db dk de)) ∧ w'.cell? ⟨rg, ro + j * 3, none⟩ = some (.bool es) ∧ w'.cell? ⟨rg, ro + j * 3 + 1, none⟩ = some (.slice ea el ec) ∧ w'.cell? ⟨rg, ro + j * 3 + 2, none⟩ = some (.slice eb ek ee)) W) := Lib.hid fun W h => by
    have hh := hbr.trans (h.mono hbr.size)
    exact ⟨cell_stay hq3 h, ⟨cell_stay e0 hh, cell_stay e1 hh, cell_stay e2 hh, cell_stay e3 hh⟩, cell_stay r0 hh, cell_stay r1 hh, cell_stay r2 hh⟩
   have HKS : Hid (∀ W s v1 v2, Below wr.heap.size wr W → (fun w' => (w'.cell? ⟨w.heap.size, 3, none⟩ = some (.slice (some ⟨g, off, none⟩) n cp)) ∧ (w'.cell? ⟨g, off + k * 4, none⟩ = some (.int .i64 (j : Int)) ∧ w'.cell? ⟨g, off + k * 4 + 1, none⟩ = some (.bool ds) ∧ w'.cell? ⟨g, off + k * 4 + 2, none⟩ = some (.slice da dl dc) ∧ w'.cell? ⟨g, off + k * 4 + 3, none⟩ = some (.slice db dk de)) ∧ w'.cell? ⟨rg, ro + j * 3, none⟩ = some (.bool es) ∧ w'.cell? ⟨rg, ro + j * 3 + 1, none⟩ = some (.slice ea el ec) ∧ w'.cell? ⟨rg, ro + j * 3 + 2, none⟩ = some (.slice eb ek ee)) (set3 W V s v1 v2)) := Lib.hid fun W s v1 v2 h => by
    obtain ⟨x3, ⟨x4, x5, x6, x7⟩, x8, x9, x10⟩ := HKS2.out W h
    exact ⟨set3_other x3 (by omega), ⟨set3_other x4 (by omega), set3_other x5 (by omega), set3_other x6 (by omega), set3_other x7 (by omega)⟩, set3_other x8 (by omega), set3_other x9 (by omega), set3_other x10 (by omega)⟩
   have hsz1 : szQ x.2 ≤ 6 := HZ.out.2.1 x (List.mem_of_getElem? hx)
   have hsz2 : szQ q ≤ 6 := HZ.out.2.2.1 q (List.mem_of_getElem? hqq)
   have hps := part_sz6 HFS.out HZ.out.1 HZ.out.2.1
   have HC7 : Hid (∀ W, Below wr.heap.size wr W → Calls Tryz.prog 14 #[.agg #[.bool ds, .slice da dl dc, .slice db dk de]] W (GotD W x.2)) := Lib.hid fun W h => got_of (hq.kept (hbr.trans (h.mono hbr.size))) (by omega) (Below.refl _ _)
   have HC17 : Hid (∀ W, Below wr.heap.size wr W → Calls Tryz.prog 14 #[.agg #[.bool es, .slice ea el ec, .slice eb ek ee]] W (GotD W (f x.1))) := Lib.hid fun W h => by rw [hfx]; exact got_of (hvq.kept (hbr.trans (h.mono hbr.size))) (by omega) (Below.refl _ _)
   have HC18 : Hid (∀ W s z1 m1 k1 z2 m2 k2 t y1 n1 j1 y2 n2 j2, Below wr.heap.size wr W → VD x.2 (s, (z1, m1, k1), (z2, m2, k2)) W → VD (f x.1) (t, (y1, n1, j1), (y2, n2, j2)) W → Calls Tryz.prog 37 #[.agg #[.bool s, .slice z1 m1 k1, .slice z2 m2 k2], .agg #[.bool t, .slice y1 n1 j1, .slice y2 n2 j2]] W (GotD W (x.2 * f x.1))) := Lib.hid fun W s z1 m1 k1 z2 m2 k2 t y1 n1 j1 y2 n2 j2 _ h1 h2 => got_mul h1 h2 (by omega) (by rw [hfx]; omega) (Below.refl _ _)
   have HC19 : Hid (∀ W s z1 m1 k1 z2 m2 k2, Below wr.heap.size wr W → VD (x.2 * f x.1) (s, (z1, m1, k1), (z2, m2, k2)) W → Calls Tryz.prog 36 #[.agg #[.bool vs, .slice va vl vc, .slice vb vk ve], .agg #[.bool s, .slice z1 m1 k1, .slice z2 m2 k2]] W (GotD W (c + dot f (ms.take k) + x.2 * f x.1))) := Lib.hid fun W s z1 m1 k1 z2 m2 k2 h h1 => got_addL (HV.out.num.kept h) h1 (by have := hps k; omega) (by have := szQ_mul x.2 (f x.1); rw [hfx] at this ⊢; omega) (Below.refl _ _)
   have HX : Hid (ms[k]? = some x) := Lib.hid hx
   have hki : (k : Int) < (n : Int) := by omega
   have hji : (j : Int) < (m : Int) := by omega
   have hiw : wrap64 ((k : Int) + 1) = (k : Int) + 1 := IntWalk.wrap64_in _ (by omega)
   clear hd hx hin hj hql hqq hvq r0 r1 r2 hfx hv hq hcell hbr hws hrg hgg hwl hsz1 hsz2 hps e0 e1 e2 e3
   go_wp2_with fail
   clear hq3
   refine wp_region_ex (ι := RawR × RawR × RawR × RawR) (fun i => [(17, .agg #[.bool vs, .slice va vl vc, .slice vb vk ve]), (18, .pointer (some ⟨w.heap.size, 3, none⟩)), (19, .slice (some ⟨g, off, none⟩) n cp), (20, .int .i64 (k : Int)), (21, .pointer (some ⟨g, off + k * 4, none⟩)), (22, .pointer (some ⟨g, off + k * 4 + 1, none⟩)), (23, .agg #[.bool ds, .slice da dl dc, .slice db dk de]), (24, .agg #[.bool i.1.1, .slice i.1.2.1.1 i.1.2.1.2.1 i.1.2.1.2.2, .slice i.1.2.2.1 i.1.2.2.2.1 i.1.2.2.2.2]), (25, .slice (some ⟨rg, ro, none⟩) m rc), (26, .pointer (some ⟨w.heap.size, 3, none⟩)), (27, .slice (some ⟨g, off, none⟩) n cp), (28, .int .i64 (k : Int)), (29, .pointer (some ⟨g, off + k * 4, none⟩)), (30, .pointer (some ⟨g, off + k * 4, none⟩)), (31, .int .i64 (j : Int)), (32, .pointer (some ⟨rg, ro + j * 3, none⟩)), (33, .agg #[.bool es, .slice ea el ec, .slice eb ek ee]), (34, .agg #[.bool i.2.1.1, .slice i.2.1.2.1.1 i.2.1.2.1.2.1 i.2.1.2.1.2.2, .slice i.2.1.2.2.1 i.2.1.2.2.2.1 i.2.1.2.2.2.2]), (35, .agg #[.bool i.2.2.1.1, .slice i.2.2.1.2.1.1 i.2.2.1.2.1.2.1 i.2.2.1.2.1.2.2, .slice i.2.2.1.2.2.1 i.2.2.1.2.2.2.1 i.2.2.1.2.2.2.2]), (36, .agg #[.bool i.2.2.2.1, .slice i.2.2.2.2.1.1 i.2.2.2.2.1.2.1 i.2.2.2.2.1.2.2, .slice i.2.2.2.2.2.1 i.2.2.2.2.2.2.1 i.2.2.2.2.2.2.2])]) (fun i W => VdAt w1 V (c + dot f (ms.take k) + x.2 * f x.1) i.2.2.2 W) ?reg5 ?rest5
   case reg5 =>
    have hI : Hid (Below wr.heap.size wr wr.drew) := Lib.hid (below_drew wr)
    obtain ⟨wl, hw0⟩ : ∃ X, X = wr.drew := ⟨_, rfl⟩
    rw [← hw0] at hI
    refine wp_region_held_drew (S := (fun w' => (w'.cell? ⟨w.heap.size, 3, none⟩ = some (.slice (some ⟨g, off, none⟩) n cp)) ∧ (w'.cell? ⟨g, off + k * 4, none⟩ = some (.int .i64 (j : Int)) ∧ w'.cell? ⟨g, off + k * 4 + 1, none⟩ = some (.bool ds) ∧ w'.cell? ⟨g, off + k * 4 + 2, none⟩ = some (.slice da dl dc) ∧ w'.cell? ⟨g, off + k * 4 + 3, none⟩ = some (.slice db dk de)) ∧ w'.cell? ⟨rg, ro + j * 3, none⟩ = some (.bool es) ∧ w'.cell? ⟨rg, ro + j * 3 + 1, none⟩ = some (.slice ea el ec) ∧ w'.cell? ⟨rg, ro + j * 3 + 2, none⟩ = some (.slice eb ek ee))) (by kernel_rfl) ?_ (fun hHeld => ?_)
    rotate_left 1
    rw [← hw0] at hHeld ⊢; clear hw0
    rotate_left 1
    ·rw [← hw0]; exact HKS2.out _ hI.out
    refine tkV 1 hHeld ?_
    try simp only [Act.put, zA, zB, zC, zD, zE, zF]
    refine tkV 2 hHeld ?_
    try simp only [Act.put, zA, zB, zC, zD, zE, zF]
    refine tkV 3 hHeld ?_
    try simp only [Act.put, zA, zB, zC, zD, zE, zF]
    refine tkV 4 hHeld ?_
    try simp only [Act.put, zA, zB, zC, zD, zE, zF]
    refine tkV 5 hHeld ?_
    try simp only [Act.put, zA, zB, zC, zD, zE, zF]
    refine tkV 6 hHeld ?_
    try simp only [Act.put, zA, zB, zC, zD, zE, zF]
    refine tkV 8 hHeld ?_
    try simp only [Act.put, zA, zB, zC, zD, zE, zF]
    refine tkV 9 hHeld ?_
    try simp only [Act.put, zA, zB, zC, zD, zE, zF]
    refine tkV 10 hHeld ?_
    try simp only [Act.put, zA, zB, zC, zD, zE, zF]
    refine tkV 11 hHeld ?_
    try simp only [Act.put, zA, zB, zC, zD, zE, zF]
    refine tkV 12 hHeld ?_
    try simp only [Act.put, zA, zB, zC, zD, zE, zF]
    refine tkV 13 hHeld ?_
    try simp only [Act.put, zA, zB, zC, zD, zE, zF]
    refine tkV 14 hHeld ?_
    try simp only [Act.put, zA, zB, zC, zD, zE, zF]
    refine tkV 15 hHeld ?_
    try simp only [Act.put, zA, zB, zC, zD, zE, zF]
    refine tkV 16 hHeld ?_
    try simp only [Act.put, zA, zB, zC, zD, zE, zF]
    refine rdy [0, 7] ?_
    refine AllReadyH.cons (by rfl) (fun K hK => ?_) ?_
    ·obtain ⟨x0, x1, x2, f0, f1, f2⟩ := cells3 (HVB.out _ hI.out)
     go_simp
     clear x0 x1 x2 f0 f1 f2
     refine hK.out _ _ ?_ (fun hHeld => ?_)
     ·exact HKS2.out _ hI.out
     clear hK K
     try simp only [Act.put, zA, zB, zC, zD, zE, zF]
     refine rdy [7] ?_
     refine AllReadyH.cons (by rfl) (fun K hK => ?_) AllReadyH.nil
     go_simp
     refine (HC7.out _ hI.out).mono ?_
     rintro e wl ⟨xs, xa, xl, xc, xb, xk, xe, rfl, hb, hx⟩
     replace hI := Lib.hid (hI.out.trans (hb.out.mono hI.out.size))
     clear hb
     refine hK.out _ _ ?_ (fun hHeld => ?_)
     ·exact HKS2.out _ hI.out
     clear hK K
     try simp only [Act.put, zA, zB, zC, zD, zE, zF]
     refine rdy [17] ?_
     refine AllReadyH.cons (by rfl) (fun K hK => ?_) AllReadyH.nil
     go_simp
     refine (HC17.out _ hI.out).mono ?_
     rintro e wl ⟨ys, ya, yl, yc, yb, yk, ye, rfl, hb, hy⟩
     replace hI := Lib.hid (hI.out.trans (hb.out.mono hI.out.size))
     replace hx := Lib.hid (hx.out.kept hb.out)
     clear hb
     refine hK.out _ _ ?_ (fun hHeld => ?_)
     ·exact HKS2.out _ hI.out
     clear hK K
     try simp only [Act.put, zA, zB, zC, zD, zE, zF]
     refine rdy [18] ?_
     refine AllReadyH.cons (by rfl) (fun K hK => ?_) AllReadyH.nil
     go_simp
     refine (HC18.out _ _ _ _ _ _ _ _ _ _ _ _ _ _ _ hI.out hx.out hy.out).mono ?_
     rintro e wl ⟨ts, ta, tl, tc, tb, tk, te, rfl, hb, ht⟩
     replace hI := Lib.hid (hI.out.trans (hb.out.mono hI.out.size))
     clear hx hy
     clear hb
     refine hK.out _ _ ?_ (fun hHeld => ?_)
     ·exact HKS2.out _ hI.out
     clear hK K
     try simp only [Act.put, zA, zB, zC, zD, zE, zF]
     refine rdy [19] ?_
     refine AllReadyH.cons (by rfl) (fun K hK => ?_) AllReadyH.nil
     go_simp
     refine (HC19.out _ _ _ _ _ _ _ _ hI.out ht.out).mono ?_
     rintro e wl ⟨us, ua, ul, uc, ub, uk, ue, rfl, hb, hu⟩
     replace hI := Lib.hid (hI.out.trans (hb.out.mono hI.out.size))
     clear ht
     clear hb
     refine hK.out _ _ ?_ (fun hHeld => ?_)
     ·exact HKS2.out _ hI.out
     clear hK K
     try simp only [Act.put, zA, zB, zC, zD, zE, zF]
     refine rdy [20] ?_
     refine AllReadyH.cons (by rfl) (fun K hK => ?_) AllReadyH.nil
     obtain ⟨x0, x1, x2, f0, f1, f2⟩ := cells3 (HVB.out _ hI.out)
     go_simp
     change K _ (set3 wl V us (.slice ua ul uc) (.slice ub uk ue))
     clear x0 x1 x2 f0 f1 f2
     have hE := Lib.hid (vd_store (HW1.out.trans (hI.out.mono HW1.out.size)) (HVB.out _ hI.out) HGE.out hu.out)
     have hS9 := Lib.hid (HKS.out _ us (.slice ua ul uc) (.slice ub uk ue) hI.out)
     clear hI hu
     refine hK.out _ _ ?_ (fun hHeld => ?_)
     ·exact hS9.out
     clear hK K
     try simp only [Act.put, zA, zB, zC, zD, zE, zF]
     refine wpAnyH_done (by kernel_rfl) ?_ _
     exact ⟨((xs, (xa, xl, xc), (xb, xk, xe)), (ys, (ya, yl, yc), (yb, yk, ye)), (ts, (ta, tl, tc), (tb, tk, te)), (us, (ua, ul, uc), (ub, uk, ue))), by simp only [puts, Act.put, zA, zB, zC, zD, zE, zF], hE.out⟩
    refine AllReadyH.cons (by rfl) (fun K hK => ?_) ?_
    ·go_simp
     refine (HC7.out _ hI.out).mono ?_
     rintro e wl ⟨xs, xa, xl, xc, xb, xk, xe, rfl, hb, hx⟩
     replace hI := Lib.hid (hI.out.trans (hb.out.mono hI.out.size))
     clear hb
     refine hK.out _ _ ?_ (fun hHeld => ?_)
     ·exact HKS2.out _ hI.out
     clear hK K
     try simp only [Act.put, zA, zB, zC, zD, zE, zF]
     refine rdy [0, 17] ?_
     refine AllReadyH.cons (by rfl) (fun K hK => ?_) ?_
     ·obtain ⟨x0, x1, x2, f0, f1, f2⟩ := cells3 (HVB.out _ hI.out)
      go_simp
      clear x0 x1 x2 f0 f1 f2
      refine hK.out _ _ ?_ (fun hHeld => ?_)
      ·exact HKS2.out _ hI.out
      clear hK K
      try simp only [Act.put, zA, zB, zC, zD, zE, zF]
      refine rdy [17] ?_
      refine AllReadyH.cons (by rfl) (fun K hK => ?_) AllReadyH.nil
      go_simp
      refine (HC17.out _ hI.out).mono ?_
      rintro e wl ⟨ys, ya, yl, yc, yb, yk, ye, rfl, hb, hy⟩
      replace hI := Lib.hid (hI.out.trans (hb.out.mono hI.out.size))
      replace hx := Lib.hid (hx.out.kept hb.out)
      clear hb
      refine hK.out _ _ ?_ (fun hHeld => ?_)
      ·exact HKS2.out _ hI.out
      clear hK K
      try simp only [Act.put, zA, zB, zC, zD, zE, zF]
      refine rdy [18] ?_
      refine AllReadyH.cons (by rfl) (fun K hK => ?_) AllReadyH.nil
      go_simp
      refine (HC18.out _ _ _ _ _ _ _ _ _ _ _ _ _ _ _ hI.out hx.out hy.out).mono ?_
      rintro e wl ⟨ts, ta, tl, tc, tb, tk, te, rfl, hb, ht⟩
      replace hI := Lib.hid (hI.out.trans (hb.out.mono hI.out.size))
      clear hx hy
      clear hb
      refine hK.out _ _ ?_ (fun hHeld => ?_)
      ·exact HKS2.out _ hI.out
      clear hK K
      try simp only [Act.put, zA, zB, zC, zD, zE, zF]
      refine rdy [19] ?_
      refine AllReadyH.cons (by rfl) (fun K hK => ?_) AllReadyH.nil
      go_simp
      refine (HC19.out _ _ _ _ _ _ _ _ hI.out ht.out).mono ?_
      rintro e wl ⟨us, ua, ul, uc, ub, uk, ue, rfl, hb, hu⟩
      replace hI := Lib.hid (hI.out.trans (hb.out.mono hI.out.size))
      clear ht
      clear hb
      refine hK.out _ _ ?_ (fun hHeld => ?_)
      ·exact HKS2.out _ hI.out
      clear hK K
      try simp only [Act.put, zA, zB, zC, zD, zE, zF]
      refine rdy [20] ?_
      refine AllReadyH.cons (by rfl) (fun K hK => ?_) AllReadyH.nil
      obtain ⟨x0, x1, x2, f0, f1, f2⟩ := cells3 (HVB.out _ hI.out)
      go_simp
      change K _ (set3 wl V us (.slice ua ul uc) (.slice ub uk ue))
      clear x0 x1 x2 f0 f1 f2
      have hE := Lib.hid (vd_store (HW1.out.trans (hI.out.mono HW1.out.size)) (HVB.out _ hI.out) HGE.out hu.out)
      have hS9 := Lib.hid (HKS.out _ us (.slice ua ul uc) (.slice ub uk ue) hI.out)
      clear hI hu
      refine hK.out _ _ ?_ (fun hHeld => ?_)
      ·exact hS9.out
      clear hK K
      try simp only [Act.put, zA, zB, zC, zD, zE, zF]
      refine wpAnyH_done (by kernel_rfl) ?_ _
      exact ⟨((xs, (xa, xl, xc), (xb, xk, xe)), (ys, (ya, yl, yc), (yb, yk, ye)), (ts, (ta, tl, tc), (tb, tk, te)), (us, (ua, ul, uc), (ub, uk, ue))), by simp only [puts, Act.put, zA, zB, zC, zD, zE, zF], hE.out⟩
     refine AllReadyH.cons (by rfl) (fun K hK => ?_) ?_
     ·go_simp
      refine (HC17.out _ hI.out).mono ?_
      rintro e wl ⟨ys, ya, yl, yc, yb, yk, ye, rfl, hb, hy⟩
      replace hI := Lib.hid (hI.out.trans (hb.out.mono hI.out.size))
      replace hx := Lib.hid (hx.out.kept hb.out)
      clear hb
      refine hK.out _ _ ?_ (fun hHeld => ?_)
      ·exact HKS2.out _ hI.out
      clear hK K
      try simp only [Act.put, zA, zB, zC, zD, zE, zF]
      refine rdy [0, 18] ?_
      refine AllReadyH.cons (by rfl) (fun K hK => ?_) ?_
      ·obtain ⟨x0, x1, x2, f0, f1, f2⟩ := cells3 (HVB.out _ hI.out)
       go_simp
       clear x0 x1 x2 f0 f1 f2
       refine hK.out _ _ ?_ (fun hHeld => ?_)
       ·exact HKS2.out _ hI.out
       clear hK K
       try simp only [Act.put, zA, zB, zC, zD, zE, zF]
       refine rdy [18] ?_
       refine AllReadyH.cons (by rfl) (fun K hK => ?_) AllReadyH.nil
       go_simp
       refine (HC18.out _ _ _ _ _ _ _ _ _ _ _ _ _ _ _ hI.out hx.out hy.out).mono ?_
       rintro e wl ⟨ts, ta, tl, tc, tb, tk, te, rfl, hb, ht⟩
       replace hI := Lib.hid (hI.out.trans (hb.out.mono hI.out.size))
       clear hx hy
       clear hb
       refine hK.out _ _ ?_ (fun hHeld => ?_)
       ·exact HKS2.out _ hI.out
       clear hK K
       try simp only [Act.put, zA, zB, zC, zD, zE, zF]
       refine rdy [19] ?_
       refine AllReadyH.cons (by rfl) (fun K hK => ?_) AllReadyH.nil
       go_simp
       refine (HC19.out _ _ _ _ _ _ _ _ hI.out ht.out).mono ?_
       rintro e wl ⟨us, ua, ul, uc, ub, uk, ue, rfl, hb, hu⟩
       replace hI := Lib.hid (hI.out.trans (hb.out.mono hI.out.size))
       clear ht
       clear hb
       refine hK.out _ _ ?_ (fun hHeld => ?_)
       ·exact HKS2.out _ hI.out
       clear hK K
       try simp only [Act.put, zA, zB, zC, zD, zE, zF]
       refine rdy [20] ?_
       refine AllReadyH.cons (by rfl) (fun K hK => ?_) AllReadyH.nil
       obtain ⟨x0, x1, x2, f0, f1, f2⟩ := cells3 (HVB.out _ hI.out)
       go_simp
       change K _ (set3 wl V us (.slice ua ul uc) (.slice ub uk ue))
       clear x0 x1 x2 f0 f1 f2
       have hE := Lib.hid (vd_store (HW1.out.trans (hI.out.mono HW1.out.size)) (HVB.out _ hI.out) HGE.out hu.out)
       have hS9 := Lib.hid (HKS.out _ us (.slice ua ul uc) (.slice ub uk ue) hI.out)
       clear hI hu
       refine hK.out _ _ ?_ (fun hHeld => ?_)
       ·exact hS9.out
       clear hK K
       try simp only [Act.put, zA, zB, zC, zD, zE, zF]
       refine wpAnyH_done (by kernel_rfl) ?_ _
       exact ⟨((xs, (xa, xl, xc), (xb, xk, xe)), (ys, (ya, yl, yc), (yb, yk, ye)), (ts, (ta, tl, tc), (tb, tk, te)), (us, (ua, ul, uc), (ub, uk, ue))), by simp only [puts, Act.put, zA, zB, zC, zD, zE, zF], hE.out⟩
      refine AllReadyH.cons (by rfl) (fun K hK => ?_) ?_
      ·go_simp
       refine (HC18.out _ _ _ _ _ _ _ _ _ _ _ _ _ _ _ hI.out hx.out hy.out).mono ?_
       rintro e wl ⟨ts, ta, tl, tc, tb, tk, te, rfl, hb, ht⟩
       replace hI := Lib.hid (hI.out.trans (hb.out.mono hI.out.size))
       clear hx hy
       clear hb
       refine hK.out _ _ ?_ (fun hHeld => ?_)
       ·exact HKS2.out _ hI.out
       clear hK K
       try simp only [Act.put, zA, zB, zC, zD, zE, zF]
       refine rdy [0] ?_
       refine AllReadyH.cons (by rfl) (fun K hK => ?_) AllReadyH.nil
       obtain ⟨x0, x1, x2, f0, f1, f2⟩ := cells3 (HVB.out _ hI.out)
       go_simp
       clear x0 x1 x2 f0 f1 f2
       refine hK.out _ _ ?_ (fun hHeld => ?_)
       ·exact HKS2.out _ hI.out
       clear hK K
       try simp only [Act.put, zA, zB, zC, zD, zE, zF]
       refine rdy [19] ?_
       refine AllReadyH.cons (by rfl) (fun K hK => ?_) AllReadyH.nil
       go_simp
       refine (HC19.out _ _ _ _ _ _ _ _ hI.out ht.out).mono ?_
       rintro e wl ⟨us, ua, ul, uc, ub, uk, ue, rfl, hb, hu⟩
       replace hI := Lib.hid (hI.out.trans (hb.out.mono hI.out.size))
       clear ht
       clear hb
       refine hK.out _ _ ?_ (fun hHeld => ?_)
       ·exact HKS2.out _ hI.out
       clear hK K
       try simp only [Act.put, zA, zB, zC, zD, zE, zF]
       refine rdy [20] ?_
       refine AllReadyH.cons (by rfl) (fun K hK => ?_) AllReadyH.nil
       obtain ⟨x0, x1, x2, f0, f1, f2⟩ := cells3 (HVB.out _ hI.out)
       go_simp
       change K _ (set3 wl V us (.slice ua ul uc) (.slice ub uk ue))
       clear x0 x1 x2 f0 f1 f2
       have hE := Lib.hid (vd_store (HW1.out.trans (hI.out.mono HW1.out.size)) (HVB.out _ hI.out) HGE.out hu.out)
       have hS9 := Lib.hid (HKS.out _ us (.slice ua ul uc) (.slice ub uk ue) hI.out)
       clear hI hu
       refine hK.out _ _ ?_ (fun hHeld => ?_)
       ·exact hS9.out
       clear hK K
       try simp only [Act.put, zA, zB, zC, zD, zE, zF]
       refine wpAnyH_done (by kernel_rfl) ?_ _
       exact ⟨((xs, (xa, xl, xc), (xb, xk, xe)), (ys, (ya, yl, yc), (yb, yk, ye)), (ts, (ta, tl, tc), (tb, tk, te)), (us, (ua, ul, uc), (ub, uk, ue))), by simp only [puts, Act.put, zA, zB, zC, zD, zE, zF], hE.out⟩
      exact AllReadyH.nil
     exact AllReadyH.nil
    exact AllReadyH.nil
   rintro ⟨⟨xs, ⟨xa, xl, xc⟩, ⟨xb, xk, xe⟩⟩, ⟨ys, ⟨ya, yl, yc⟩, ⟨yb, yk, ye⟩⟩, ⟨ts, ⟨ta, tl, tc⟩, ⟨tb, tk, te⟩⟩, ⟨us, ⟨ua, ul, uc⟩, ⟨ub, uk, ue⟩⟩⟩ w4 hS
   simp only [puts, Act.put, zA, zB, zC, zD, zE, zF]
   have HVN : Hid (VdAt w1 V (c + dot f (ms.take (k + 1))) (us, (ua, ul, uc), (ub, uk, ue)) w4) := Lib.hid (by rw [dot_next HX.out, ← Rat.add_assoc]; exact hS)
   clear hS HC7 HC17 HC18 HC19 HKS HKS2 HVB HGE HW1 HX
   go_wp2_with fail
   go_roundw
   case rel => exact ⟨k + 1, by omega, by go_num, _, HVN⟩
   case measure => first | exact measure_next hiw hlt | exact measure_next rfl hlt
  ·obtain rfl : k = n := by omega
   have hfull : ms.take k = ms := List.take_of_length_le (by have := HZ.out.2.2.2.2.2.2.2.1; omega)
   rw [hfull] at HV
   have hR := stayL HBK1.out.2.1 HV.out.r
   have hws : w1.heap.size ≤ V ∧ w.heap.size + 1 < w1.heap.size := ⟨HV.out.ge, by have := HBK1.out.2.2.2; omega⟩
   obtain ⟨x0, x1, x2, f0, f1, f2⟩ := cells3 HV.out.blk
   obtain ⟨y0, y1, y2, g0, g1, g2⟩ := cells3 hR
   have HE : Hid (GotD w (c + dot f ms) (.returned (.agg #[.bool vs, .slice va vl vc, .slice vb vk ve])) (set3 wr (w.heap.size + 1) vs (.slice va vl vc) (.slice vb vk ve))) := Lib.hid ⟨_, _, _, _, _, _, _, rfl, Lib.hid (set3_below (HBK1.out.2.2.1.trans (HV.out.r.mono HBK1.out.2.2.1.size)) (by omega)), Lib.hid (HV.out.num.set3L hR _ _ _)⟩
   have HC6 := Lib.hid (cells3 (set3_block hR vs (.slice va vl vc) (.slice vb vk ve)))
   rw [HF.out] at *
   clear hfull hR hws
   go_wp2_with fail
   clear x0 x1 x2 f0 f1 f2 y0 y1 y2 g0 g1 g2
   obtain ⟨z0, z1, z2, _⟩ := HC6.out
   change bodyPost _ _ _ _ _ (set3 wr (w.heap.size + 1) vs (.slice va vl vc) (.slice vb vk ve))
   exact bodyPost_ret (v := .agg #[.bool vs, .slice va vl vc, .slice vb vk ve]) (by simp [results, Tryz.results25, go_sem, z0, z1, z2]) rfl HE.out
end Go.Proofs.YtpjeecahaeaajaaGreatDoor

namespace Go.Proofs.YtpjeecahaeaajaaGreatDoor
open Go.RowKit Rep Ln
def GotX (b : Nat) (W5 : World) (ev : Int) (q : Rat) (e : Ending) (W' : World) : Prop :=
 ∃ s z1 m1 k1 z2 m2 k2, e = .returned (.tuple #[.agg #[.bool s, .slice z1 m1 k1, .slice z2 m2 k2], .int .i64 ev]) ∧ Hid (BR b 1000 false W5 W') ∧ Hid (VQ q (s, (z1, m1, k1), (z2, m2, k2)) W')
theorem value_x {w0 w : World} {b : Nat} {c q : Rat} {ms : List Mo} {f : Int → Rat} {ev : Int} {ps : Bool} {pa pb : Option Addr} {pl pc pk pe : Nat} {a : Option Addr} {cp n : Nat} {rs : List RM} {ra : Option Addr} {rc m : Nat} {rr : List RawR} {qs : List Rat} (h0 : BR b 1000 false w0 w0) (h : BR b 1000 false w0 w)
    (hp : PolyAt c ms (ps, (pa, pl, pc), (pb, pk, pe)) a rs w) (hr : RsAt w0 ra rr qs) (zc : szQ c ≤ 24) (zm : ∀ y ∈ ms, szQ y.2 ≤ 24) (zr : ∀ q ∈ qs, szQ q ≤ 6) (hn : ms.length ≤ 24) (e1 : rs.length = n) (e2 : rr.length = m) (hm : m ≤ 50) (hf : atQ qs = f) (hev : errI (badM m ms) = ev) (hq : leftQ (badM m ms) (c + dot f ms) = q) :
    Calls Tryz.prog 22 #[.pointer (some ⟨b, 0, none⟩), .agg #[.bool ps, .slice pa pl pc, .slice pb pk pe, .slice a n cp], .slice ra m rc] w (GotX b w ev q) := by
 subst hf hev hq
 exact Value_any h.bench h.tab hp (hr.bench h0.bench h) zc zm zr (by rw [← e1, hp.ms.len]; exact hn) e1 e2 hm
theorem add_all {k c1 c2 : Rat} {ms1 ms2 : List Mo} (zk : szQ k ≤ 6) (z1 : szQ c1 ≤ 6) (zm1 : ∀ x ∈ ms1, szQ x.2 ≤ 6) (z2 : szQ c2 ≤ 6) (zm2 : ∀ x ∈ ms2, szQ x.2 ≤ 6) (f1 : Fit ms1) (f2 : Fit ms2) : addO 1000 false c1 ms1 k c2 ms2 = false := by
 have h1 := szQ_mul k c2
 have h2 := addC_sz zk z1 z2
 unfold addO scaleO
 simp only [Bool.false_or, Bool.or_eq_false_iff]
 refine ⟨⟨⟨ov_small (by omega), ?_⟩, ov_small (by omega)⟩, ?_⟩
 ·rw [List.any_eq_false]
  intro y hy
  rw [ov_small (by have := szQ_mul k y.2; have := zm2 y hy; omega)]
  simp
 ·rw [Bool.eq_false_iff]
  intro h
  rcases merge_fits h with ⟨x, hx, h⟩ | ⟨y, hy, h⟩
  ·rw [ov_small (by have := zm1 x hx; omega)] at h; cases h
  ·rw [merge_ref f1 f2] at hy
   rw [ov_small (by have := refAdd_sz zk zm1 zm2 y hy; omega)] at h
   cases h
theorem scale_all {k c : Rat} {ms : List Mo} (zk : szQ k ≤ 6) (z : szQ c ≤ 6) (zm : ∀ x ∈ ms, szQ x.2 ≤ 6) : (false || ovQ 1000 (k * c) || scaleO 1000 k ms) = false := by
 have h1 := szQ_mul k c
 rw [Bool.false_or, Bool.or_eq_false_iff]
 refine ⟨ov_small (by omega), ?_⟩
 unfold scaleO
 rw [List.any_eq_false]
 intro y hy
 rw [ov_small (by have := szQ_mul k y.2; have := zm y hy; omega)]
 simp
theorem scale_sm {w : World} {b : Nat} {k c : Rat} {ms : List Mo} {ks : Bool} {ka kb : Option Addr} {kl kc kk ke : Nat} {cs : Bool} {ca cb : Option Addr} {cl cc ck ce : Nat} {a : Option Addr} {cp n : Nat} {rs : List RM} (hB : Bench w b 1000 false) (hT : Tab w)
    (hk : VQ k (ks, (ka, kl, kc), (kb, kk, ke)) w) (hp : PolyAt c ms (cs, (ca, cl, cc), (cb, ck, ce)) a rs w) (zk : szQ k ≤ 6) (zc : szQ c ≤ 6) (zm : ∀ x ∈ ms, szQ x.2 ≤ 6) (hn : n ≤ 12) (e : rs.length = n) :
    Calls Tryz.prog 18 #[.pointer (some ⟨b, 0, none⟩), .agg #[.bool ks, .slice ka kl kc, .slice kb kk ke], .agg #[.bool cs, .slice ca cl cc, .slice cb ck ce, .slice a n cp]] w (GotP b 1000 false w (k * c) (scale k ms)) := by
 subst e
 have := Scale_any (cp := cp) hB hT hk hp (by omega) (by omega) (fun x hx => by have := zm x hx; omega) (by omega)
 rwa [scale_all zk zc zm] at this
end Go.Proofs.YtpjeecahaeaajaaGreatDoor
