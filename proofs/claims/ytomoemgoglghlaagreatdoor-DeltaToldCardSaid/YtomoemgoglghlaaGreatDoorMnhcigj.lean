/- By program out of: DelToldWalk. -/
import Derived.Test.YtomoemgoglghlaaGreatDoorMlpbpbm
import Derived.Test.YtomoemgoglghlaaGreatDoorMfeihcg
import Derived.Test.YtomoemgoglghlaaGreatDoorMoopohh
import Derived.Test.YtomoemgoglghlaaGreatDoorMmfccbd
/-
  DeltaTold: the law's walk.
-/
set_option linter.unusedVariables false
set_option linter.unusedSimpArgs false
namespace Go.Proofs.YtomoemgoglghlaaGreatDoor
open Go.RowKit Rep


theorem OkQ.vq3 {W : World} {s : Bool} {a1 a2 : Option Addr} {l1 c1 l2 c2 : Nat} {x : Rat} (h : OkQ W ((s, (a1, l1, c1), (a2, l2, c2)), x)) : VQ x (s, (a1, l1, c1), (a2, l2, c2)) W := ⟨h.sg, h.l1, h.l2, h.at'⟩
theorem hand0 (W : World) : HandR W none 0 [] none 0 [] := ⟨⟨Dig.nil _, Reads.nil _ _, by simp, by simp [maxLen]⟩, ⟨Dig.nil _, Reads.nil _ _, by simp, by simp [maxLen]⟩⟩
/-- What isn't odd has two numbers in their one form. -/
theorem odd_no {W : World} {d : HD} (h : oddE d = false) (hh : HandD W d) : ∃ q r, VQ q d.ra W ∧ VQ r d.rb W ∧ szQ q ≤ 6 ∧ szQ r ≤ 6 := by
  obtain ⟨s, a1, c1, xs, a2, c2, ds, t, b1, e1, ys, b2, e2, es⟩ := d
  unfold oddE HD.ra HD.rb at h
  rw [Bool.or_eq_false_iff] at h
  obtain ⟨h1, h2⟩ := h
  obtain ⟨l1, l2, l3, l4⟩ := great_two h1
  rw [Bool.not_eq_false', Bool.and_eq_true] at h2
  obtain ⟨q, oq, zq⟩ := okq_of_right hh.a h2.1 l1 l2
  obtain ⟨r, or', zr⟩ := okq_of_right hh.b h2.2 l3 l4
  exact ⟨q, r, oq.vq3, or'.vq3, zq, zr⟩
theorem Dels.three {W : World} {g : Nat} {ty : TypeId} {x y z : HD} (h : W.heap[g]? = some (.cells #[.bool x.s, .slice x.a1 x.xs.length x.c1, .slice x.a2 x.ds.length x.c2, .bool x.t, .slice x.b1 x.ys.length x.e1, .slice x.b2 x.es.length x.e2, .bool y.s, .slice y.a1 y.xs.length y.c1, .slice y.a2 y.ds.length y.c2, .bool y.t, .slice y.b1 y.ys.length y.e1, .slice y.b2 y.es.length y.e2, .bool z.s, .slice z.a1 z.xs.length z.c1, .slice z.a2 z.ds.length z.c2, .bool z.t, .slice z.b1 z.ys.length z.e1, .slice z.b2 z.es.length z.e2] ty (0, 0))) : Dels W g [x, y, z] := by
  intro k d hd
  rcases k with _ | _ | _ | k
  · simp only [List.getElem?_cons_zero, Option.some.injEq] at hd
    subst hd
    simp [World.cell?, h]
  · simp only [List.getElem?_cons_succ, List.getElem?_cons_zero, Option.some.injEq] at hd
    subst hd
    simp [World.cell?, h]
  · simp only [List.getElem?_cons_succ, List.getElem?_cons_zero, Option.some.injEq] at hd
    subst hd
    simp [World.cell?, h]
  · simp at hd

set_option maxRecDepth 100000 in
set_option maxHeartbeats 32000000 in
theorem toldD_walk {n : Int} {s1 t1 : Bool} {a1 b1 f1 h1 : Option Addr} {c1 e1 g1 i1 : Nat} {xs1 ds1 ys1 es1 : List Nat} {s2 t2 : Bool} {a2 b2 f2 h2 : Option Addr} {c2 e2 g2 i2 : Nat} {xs2 ds2 ys2 es2 : List Nat} {s3 : Bool} {a3 b3 : Option Addr} {c3 e3 : Nat} {xs3 ds3 : List Nat} {w : World} (hn : n ≤ 9223372036854775807) (hx : HandD w ⟨s1, a1, c1, xs1, b1, e1, ds1, t1, f1, g1, ys1, h1, i1, es1⟩) (hy : HandD w ⟨s2, a2, c2, xs2, b2, e2, ds2, t2, f2, g2, ys2, h2, i2, es2⟩) (hk : HandR w a3 c3 xs3 b3 e3 ds3) (hT : Tab w) :
    Calls Tryz.prog 8 #[.int .i64 n, .agg #[.bool s1, .slice a1 xs1.length c1, .slice b1 ds1.length e1, .bool t1, .slice f1 ys1.length g1, .slice h1 es1.length i1], .agg #[.bool s2, .slice a2 xs2.length c2, .slice b2 ds2.length e2, .bool t2, .slice f2 ys2.length g2, .slice h2 es2.length i2], .agg #[.bool s3, .slice a3 xs3.length c3, .slice b3 ds3.length e3]] w (Holds w) := by
  obtain ⟨W0, hW0, hB0, bx1, bx2, bx3, hsz⟩ := boxes3 w #[.bool s1, .slice a1 xs1.length c1, .slice b1 ds1.length e1, .bool t1, .slice f1 ys1.length g1, .slice h1 es1.length i1] #[.bool s2, .slice a2 xs2.length c2, .slice b2 ds2.length e2, .bool t2, .slice f2 ys2.length g2, .slice h2 es2.length i2] #[.bool s3, .slice a3 xs3.length c3, .slice b3 ds3.length e3] 70 70 27
  have HSP := Lib.hid (speaks03 (hT.kept hB0))
  have HK : Hid (∀ W, Below W0.heap.size W0 W → (W.cell? ⟨w.heap.size, 0, none⟩ = some (.bool s1) ∧ W.cell? ⟨w.heap.size, 1, none⟩ = some (.slice a1 xs1.length c1) ∧ W.cell? ⟨w.heap.size, 2, none⟩ = some (.slice b1 ds1.length e1) ∧ W.cell? ⟨w.heap.size, 3, none⟩ = some (.bool t1) ∧ W.cell? ⟨w.heap.size, 4, none⟩ = some (.slice f1 ys1.length g1) ∧ W.cell? ⟨w.heap.size, 5, none⟩ = some (.slice h1 es1.length i1) ∧ W.cell? ⟨w.heap.size + 1, 0, none⟩ = some (.bool s2) ∧ W.cell? ⟨w.heap.size + 1, 1, none⟩ = some (.slice a2 xs2.length c2) ∧ W.cell? ⟨w.heap.size + 1, 2, none⟩ = some (.slice b2 ds2.length e2) ∧ W.cell? ⟨w.heap.size + 1, 3, none⟩ = some (.bool t2) ∧ W.cell? ⟨w.heap.size + 1, 4, none⟩ = some (.slice f2 ys2.length g2) ∧ W.cell? ⟨w.heap.size + 1, 5, none⟩ = some (.slice h2 es2.length i2) ∧ W.cell? ⟨w.heap.size + 1 + 1, 0, none⟩ = some (.bool s3) ∧ W.cell? ⟨w.heap.size + 1 + 1, 1, none⟩ = some (.slice a3 xs3.length c3) ∧ W.cell? ⟨w.heap.size + 1 + 1, 2, none⟩ = some (.slice b3 ds3.length e3))) := Lib.hid fun W h => by
    obtain ⟨k0, k1, k2, k3, k4, k5, _⟩ := cells6 (stay bx1 h)
    obtain ⟨k6, k7, k8, k9, k10, k11, _⟩ := cells6 (stay bx2 h)
    obtain ⟨k12, k13, k14, _⟩ := cells3 (stay bx3 h)
    exact ⟨k0, k1, k2, k3, k4, k5, k6, k7, k8, k9, k10, k11, k12, k13, k14⟩
  have HW0 := Lib.hid hW0
  have HB := Lib.hid hB0
  have HX := Lib.hid (hx.kept hB0)
  have HY := Lib.hid (hy.kept hB0)
  have HKD : Hid (HandD W0 ⟨s3, a3, c3, xs3, b3, e3, ds3, false, none, 0, [], none, 0, []⟩) := Lib.hid ⟨hk.kept hB0, hand0 _⟩
  have HT := Lib.hid (hT.kept hB0)
  have HN := Lib.hid hn
  have HWL : Hid (w.heap.size + 1 + 1 < W0.heap.size) := Lib.hid (by omega)
  clear hW0 hB0 bx1 bx2 bx3 hx hy hk hT hsz hn
  obtain ⟨k0, k1, k2, k3, k4, k5, k6, k7, k8, k9, k10, k11, k12, k13, k14⟩ := HK.out W0 (Below.refl _ _)
  go_enter Tryz.func8, Tryz.ntmps8
  go_wp2_with fail
  rw [← HW0.out]
  refine HSP.out.mono ?_
  rintro e w1 ⟨rfl, hb1⟩
  obtain ⟨k0, k1, k2, k3, k4, k5, k6, k7, k8, k9, k10, k11, k12, k13, k14⟩ := HK.out _ hb1
  have HB1 := Lib.hid hb1
  clear hb1 HSP
  have hal := (Below.refl w1.heap.size w1).alloc (Nat.le_refl _) (.cells #[.bool s1, .slice a1 xs1.length c1, .slice b1 ds1.length e1, .bool t1, .slice f1 ys1.length g1, .slice h1 es1.length i1, .bool s2, .slice a2 xs2.length c2, .slice b2 ds2.length e2, .bool t2, .slice f2 ys2.length g2, .slice h2 es2.length i2, .bool s3, .slice a3 xs3.length c3, .slice b3 ds3.length e3, .bool false, .slice none 0 0, .slice none 0 0] 70)
  have hb1a := HB1.out.trans (hal.mono HB1.out.size)
  have HOD : Hid (Calls Tryz.prog 53 #[.slice (some ⟨w1.heap.size, 0, none⟩) 3 3] (w1.alloc (.cells #[.bool s1, .slice a1 xs1.length c1, .slice b1 ds1.length e1, .bool t1, .slice f1 ys1.length g1, .slice h1 es1.length i1, .bool s2, .slice a2 xs2.length c2, .slice b2 ds2.length e2, .bool t2, .slice f2 ys2.length g2, .slice h2 es2.length i2, .bool s3, .slice a3 xs3.length c3, .slice b3 ds3.length e3, .bool false, .slice none 0 0, .slice none 0 0] 70)) (GivesB ([⟨s1, a1, c1, xs1, b1, e1, ds1, t1, f1, g1, ys1, h1, i1, es1⟩, ⟨s2, a2, c2, xs2, b2, e2, ds2, t2, f2, g2, ys2, h2, i2, es2⟩, ⟨s3, a3, c3, xs3, b3, e3, ds3, false, none, 0, [], none, 0, []⟩].any oddE) (w1.alloc (.cells #[.bool s1, .slice a1 xs1.length c1, .slice b1 ds1.length e1, .bool t1, .slice f1 ys1.length g1, .slice h1 es1.length i1, .bool s2, .slice a2 xs2.length c2, .slice b2 ds2.length e2, .bool t2, .slice f2 ys2.length g2, .slice h2 es2.length i2, .bool s3, .slice a3 xs3.length c3, .slice b3 ds3.length e3, .bool false, .slice none 0 0, .slice none 0 0] 70)))) := Lib.hid (Odd_any w1.heap.size 3 [⟨s1, a1, c1, xs1, b1, e1, ds1, t1, f1, g1, ys1, h1, i1, es1⟩, ⟨s2, a2, c2, xs2, b2, e2, ds2, t2, f2, g2, ys2, h2, i2, es2⟩, ⟨s3, a3, c3, xs3, b3, e3, ds3, false, none, 0, [], none, 0, []⟩] _ (Dels.three (heap_alloc_new w1 _)) (by
    intro d hd
    rcases List.mem_cons.1 hd with rfl | hd
    · exact HX.out.kept hb1a
    · rcases List.mem_cons.1 hd with rfl | hd
      · exact HY.out.kept hb1a
      · rcases List.mem_cons.1 hd with rfl | hd
        · exact HKD.out.kept hb1a
        · cases hd) (by simp) (by simp))
  have HA1 := Lib.hid hb1a
  clear hal hb1a
  go_wp2_with fail
  cases hodd : [⟨s1, a1, c1, xs1, b1, e1, ds1, t1, f1, g1, ys1, h1, i1, es1⟩, ⟨s2, a2, c2, xs2, b2, e2, ds2, t2, f2, g2, ys2, h2, i2, es2⟩, ⟨s3, a3, c3, xs3, b3, e3, ds3, false, none, 0, [], none, 0, []⟩].any oddE
  case true =>
    rw [hodd] at HOD
    clear hodd
    refine HOD.out.mono ?_
    rintro e w2 ⟨rfl, hb2⟩
    have HE := Lib.hid (HB.out.trans ((HA1.out.trans (hb2.mono HA1.out.size)).mono HB.out.size))
    clear hb2 HOD
    go_wp2_with fail
    go_ret
    exact ⟨rfl, HE.out⟩
  case false =>
  rw [hodd] at HOD
  simp only [List.any_cons, List.any_nil, Bool.or_false, Bool.or_eq_false_iff] at hodd
  obtain ⟨o1, o2, o3⟩ := hodd
  obtain ⟨q, r, vx, vu, zq, zr⟩ := odd_no o1 HX.out
  obtain ⟨q', r', vy, vv, zq', zr'⟩ := odd_no o2 HY.out
  obtain ⟨kq, k0q, vk, _, zk, _⟩ := odd_no o3 HKD.out
  unfold HD.ra at vx vy vk
  unfold HD.rb at vu vv
  dsimp only at vx vu vy vv vk
  clear o1 o2 o3
  refine HOD.out.mono ?_
  rintro e w4 ⟨rfl, hb2⟩
  have hb04 := HA1.out.trans (hb2.mono HA1.out.size)
  obtain ⟨k0, k1, k2, k3, k4, k5, k6, k7, k8, k9, k10, k11, k12, k13, k14⟩ := HK.out _ hb04
  obtain ⟨z0, z1, z2, z3, z4, z5, z6, z7, z8, z9, z10, z11⟩ := far3 HWL.out hb04
  have HVX := Lib.hid (And.intro vx vu)
  have HVY := Lib.hid (And.intro vy vv)
  have HVK := Lib.hid vk
  have HZ : Hid (szQ q ≤ 100 ∧ szQ r ≤ 100 ∧ szQ q' ≤ 100 ∧ szQ r' ≤ 100) := Lib.hid (by omega)
  have HZ6 : Hid (szQ q ≤ 6 ∧ szQ r ≤ 6 ∧ szQ q' ≤ 6 ∧ szQ r' ≤ 6 ∧ szQ kq ≤ 6) := Lib.hid ⟨zq, zr, zq', zr', zk⟩
  have hle := hb04.size
  have HLE := Lib.hid (And.intro hle (Nat.le_succ_of_le hle))
  have HDA := Lib.hid (ofE_first vx vu HZ.out.1 HZ.out.2.1 (show Below W0.heap.size W0 w4.drew from hb04.trans ((below_drew w4).mono hb04.size)))
  have HDB := Lib.hid (ofE_first vx vu HZ.out.1 HZ.out.2.1 (show Below W0.heap.size W0 (w4.alloc (.cells #[.bool false, .slice none 0 0, .slice none 0 0, .bool false, .slice none 0 0, .slice none 0 0] 73)).drew from hb04.trans ((show Below w4.heap.size w4 (w4.alloc (.cells #[.bool false, .slice none 0 0, .slice none 0 0, .bool false, .slice none 0 0, .slice none 0 0] 73)).drew from Below.drewN' ((Below.refl w4.heap.size w4).alloc (Nat.le_refl _) (.cells #[.bool false, .slice none 0 0, .slice none 0 0, .bool false, .slice none 0 0, .slice none 0 0] 73)) 1).mono hb04.size)))
  have HDC := Lib.hid (ofE_first vx vu HZ.out.1 HZ.out.2.1 (show Below W0.heap.size W0 ((w4.alloc (.cells #[.bool false, .slice none 0 0, .slice none 0 0, .bool false, .slice none 0 0, .slice none 0 0] 73)).alloc (.cells #[.bool false, .slice none 0 0, .slice none 0 0, .bool false, .slice none 0 0, .slice none 0 0] 73)).drew from hb04.trans ((show Below w4.heap.size w4 ((w4.alloc (.cells #[.bool false, .slice none 0 0, .slice none 0 0, .bool false, .slice none 0 0, .slice none 0 0] 73)).alloc (.cells #[.bool false, .slice none 0 0, .slice none 0 0, .bool false, .slice none 0 0, .slice none 0 0] 73)).drew from Below.drewN' (((Below.refl w4.heap.size w4).alloc (Nat.le_refl _) (.cells #[.bool false, .slice none 0 0, .slice none 0 0, .bool false, .slice none 0 0, .slice none 0 0] 73)).alloc (by simp) (.cells #[.bool false, .slice none 0 0, .slice none 0 0, .bool false, .slice none 0 0, .slice none 0 0] 73)) 1).mono hb04.size)))
  have HZB : Hid (Six (w4.alloc (.cells #[.bool false, .slice none 0 0, .slice none 0 0, .bool false, .slice none 0 0, .slice none 0 0] 73)).drew w4.heap.size 73) := Lib.hid (heap_alloc_new w4 _)
  have HZC : Hid (Six ((w4.alloc (.cells #[.bool false, .slice none 0 0, .slice none 0 0, .bool false, .slice none 0 0, .slice none 0 0] 73)).alloc (.cells #[.bool false, .slice none 0 0, .slice none 0 0, .bool false, .slice none 0 0, .slice none 0 0] 73)).drew w4.heap.size 73 ∧ Six ((w4.alloc (.cells #[.bool false, .slice none 0 0, .slice none 0 0, .bool false, .slice none 0 0, .slice none 0 0] 73)).alloc (.cells #[.bool false, .slice none 0 0, .slice none 0 0, .bool false, .slice none 0 0, .slice none 0 0] 73)).drew (w4.heap.size + 1) 73) := Lib.hid (by
    refine ⟨?_, ?_⟩
    · exact Six.kept (heap_alloc_new w4 _) (Below.drewN' ((Below.refl _ _).alloc (Nat.le_refl _) (.cells #[.bool false, .slice none 0 0, .slice none 0 0, .bool false, .slice none 0 0, .slice none 0 0] 73)) 1)
    · have := heap_alloc_new (w4.alloc (.cells #[.bool false, .slice none 0 0, .slice none 0 0, .bool false, .slice none 0 0, .slice none 0 0] 73)) (.cells #[.bool false, .slice none 0 0, .slice none 0 0, .bool false, .slice none 0 0, .slice none 0 0] 73)
      simpa [Six, World.drew] using this)
  have HE1 : Hid (w4.heap.size ≠ w4.heap.size + 1) := Lib.hid (by omega)
  clear hb2 hb04 hle vx vu vy vv vk zq zr zq' zr' zk HX HY HKD HOD HA1 HB1 HW0
  go_wp2_with fail
  refine wp_region_ex (ι := Nat × Nat × RawD × RawD) (fun i => [(19, .agg #[.bool s1, .slice a1 xs1.length c1, .slice b1 ds1.length e1, .bool t1, .slice f1 ys1.length g1, .slice h1 es1.length i1]), (20, .agg #[.bool i.2.2.1.1.1, .slice i.2.2.1.1.2.1.1 i.2.2.1.1.2.1.2.1 i.2.2.1.1.2.1.2.2, .slice i.2.2.1.1.2.2.1 i.2.2.1.1.2.2.2.1 i.2.2.1.1.2.2.2.2, .bool i.2.2.1.2.1, .slice i.2.2.1.2.2.1.1 i.2.2.1.2.2.1.2.1 i.2.2.1.2.2.1.2.2, .slice i.2.2.1.2.2.2.1 i.2.2.1.2.2.2.2.1 i.2.2.1.2.2.2.2.2]), (21, .agg #[.bool s2, .slice a2 xs2.length c2, .slice b2 ds2.length e2, .bool t2, .slice f2 ys2.length g2, .slice h2 es2.length i2]), (22, .agg #[.bool i.2.2.2.1.1, .slice i.2.2.2.1.2.1.1 i.2.2.2.1.2.1.2.1 i.2.2.2.1.2.1.2.2, .slice i.2.2.2.1.2.2.1 i.2.2.2.1.2.2.2.1 i.2.2.2.1.2.2.2.2, .bool i.2.2.2.2.1, .slice i.2.2.2.2.2.1.1 i.2.2.2.2.2.1.2.1 i.2.2.2.2.2.1.2.2, .slice i.2.2.2.2.2.2.1 i.2.2.2.2.2.2.2.1 i.2.2.2.2.2.2.2.2]), (9, .pointer (some ⟨i.1, 0, none⟩)), (10, .pointer (some ⟨i.2.1, 0, none⟩))]) (EAt W0 q r q' r') ?region ?rest
  case region =>
    refine wp_region_held_drew (S := (fun w' => w'.cell? ⟨w.heap.size, 0, none⟩ = some (.bool s1) ∧ w'.cell? ⟨w.heap.size, 1, none⟩ = some (.slice a1 xs1.length c1) ∧ w'.cell? ⟨w.heap.size, 2, none⟩ = some (.slice b1 ds1.length e1) ∧ w'.cell? ⟨w.heap.size, 3, none⟩ = some (.bool t1) ∧ w'.cell? ⟨w.heap.size, 4, none⟩ = some (.slice f1 ys1.length g1) ∧ w'.cell? ⟨w.heap.size, 5, none⟩ = some (.slice h1 es1.length i1) ∧ w'.cell? ⟨w.heap.size + 1, 0, none⟩ = some (.bool s2) ∧ w'.cell? ⟨w.heap.size + 1, 1, none⟩ = some (.slice a2 xs2.length c2) ∧ w'.cell? ⟨w.heap.size + 1, 2, none⟩ = some (.slice b2 ds2.length e2) ∧ w'.cell? ⟨w.heap.size + 1, 3, none⟩ = some (.bool t2) ∧ w'.cell? ⟨w.heap.size + 1, 4, none⟩ = some (.slice f2 ys2.length g2) ∧ w'.cell? ⟨w.heap.size + 1, 5, none⟩ = some (.slice h2 es2.length i2) ∧ w'.cell? ⟨w.heap.size + 1 + 1, 0, none⟩ = some (.bool s3) ∧ w'.cell? ⟨w.heap.size + 1 + 1, 1, none⟩ = some (.slice a3 xs3.length c3) ∧ w'.cell? ⟨w.heap.size + 1 + 1, 2, none⟩ = some (.slice b3 ds3.length e3))) (by kernel_rfl) ?_ (fun hHeld => ?_)
    · exact ⟨k0, k1, k2, k3, k4, k5, k6, k7, k8, k9, k10, k11, k12, k13, k14⟩
    refine wpAnyH_take (i := 0) (v := ?_) (by rfl) (by kernel_rfl) (by kernel_rfl) (by kernel_rfl) (by exact fun _ _ _ h => h) (Or.inl ⟨by rfl, ?_⟩) hHeld ?_
    rotate_left 1
    · intro w' hSw
      go_simp
      try with_reducible rfl
    try simp only [Act.put, List.setIfInBounds_toArray, List.set_cons_zero, List.set_cons_succ, List.getElem_toArray, List.getElem_cons_zero, List.getElem_cons_succ]
    refine wpAnyH_take (i := 2) (v := ?_) (by rfl) (by kernel_rfl) (by kernel_rfl) (by kernel_rfl) (by exact fun _ _ _ h => h) (Or.inl ⟨by rfl, ?_⟩) hHeld ?_
    rotate_left 1
    · intro w' hSw
      go_simp
      try with_reducible rfl
    try simp only [Act.put, List.setIfInBounds_toArray, List.set_cons_zero, List.set_cons_succ, List.getElem_toArray, List.getElem_cons_zero, List.getElem_cons_succ]
    refine wpAnyH_ready (rs := [1, 4, 5]) (by kernel_rfl) (by simp) ?_
    refine AllReadyH.cons (by rfl) (fun K hK => ?_) ?_
    · go_simp
      (with_reducible refine HDA.out.mono ?_); rintro e wa ⟨m0, m1, m2, m3, m4, m5, m6, n0, n1, n2, n3, n4, n5, n6, rfl, HTA, HGA⟩; have hpa := HTA.out.below; obtain ⟨o0, o1, o2, o3, o4, o5, o6, o7, o8, o9, o10, o11, o12, o13, o14⟩ := HK.out _ hpa; obtain ⟨v0, v1, v2, v3, v4, v5, v6, v7, v8, v9, v10, v11⟩ := far3 HWL.out hpa
      refine hK.out _ _ ?_ (fun hHeld => ?_)
      · (try dsimp only); first | with_reducible exact HK.out _ hp4 | with_reducible exact HK.out _ hpc | with_reducible exact HK.out _ hpb | with_reducible exact HK.out _ hpa | go_keep
      clear hK K
      try simp only [Act.put, List.setIfInBounds_toArray, List.set_cons_zero, List.set_cons_succ, List.getElem_toArray, List.getElem_cons_zero, List.getElem_cons_succ]
      refine wpAnyH_ready (rs := [3, 4, 5]) (by kernel_rfl) (by simp) ?_
      refine AllReadyH.cons (by rfl) (fun K hK => ?_) ?_
      · go_simp
        (with_reducible refine (ofE_second HTA.out HVY.out.1 HVY.out.2 HZ.out.2.2.1 HZ.out.2.2.2 (Below.refl _ _)).mono ?_); rintro e w4' ⟨j0, j1, j2, j3, j4, j5, j6, l0, l1, l2, l3, l4, l5, l6, rfl, H2, HG4⟩; have hp4 := H2.out.one.below; obtain ⟨k0, k1, k2, k3, k4, k5, k6, k7, k8, k9, k10, k11, k12, k13, k14⟩ := HK.out _ hp4; obtain ⟨z0, z1, z2, z3, z4, z5, z6, z7, z8, z9, z10, z11⟩ := far3 HWL.out hp4; have hf1 := H2.out.end0a; have hf2 := H2.out.end0b; dsimp only [Go.Proofs.YtomoemgoglghlaaGreatDoor.put6, Go.Proofs.YtomoemgoglghlaaGreatDoor.set6, c6] at hf1 hf2; obtain ⟨WA, hWA, hf3⟩ := hf1.split; obtain ⟨WB, hWB, hf4⟩ := hf2.split; have HF1 := Lib.hid hf3; have HF2 := Lib.hid hf4; have HWA := Lib.hid hWA; have HWB := Lib.hid hWB; clear hf1 hf2 hf3 hf4 hWA hWB
        refine hK.out _ _ ?_ (fun hHeld => ?_)
        · (try dsimp only); first | with_reducible exact HK.out _ hp4 | with_reducible exact HK.out _ hpc | with_reducible exact HK.out _ hpb | with_reducible exact HK.out _ hpa | go_keep
        clear hK K
        try simp only [Act.put, List.setIfInBounds_toArray, List.set_cons_zero, List.set_cons_succ, List.getElem_toArray, List.getElem_cons_zero, List.getElem_cons_succ]
        refine wpAnyH_ready (rs := [4, 5]) (by kernel_rfl) (by simp) ?_
        refine AllReadyH.cons (by rfl) (fun K hK => ?_) ?_
        · go_simp
          refine hK.out _ _ ?_ (fun hHeld => ?_)
          · (try dsimp only); first | with_reducible exact HK.out _ hp4 | with_reducible exact HK.out _ hpc | with_reducible exact HK.out _ hpb | with_reducible exact HK.out _ hpa | go_keep
          clear hK K
          try simp only [Act.put, List.setIfInBounds_toArray, List.set_cons_zero, List.set_cons_succ, List.getElem_toArray, List.getElem_cons_zero, List.getElem_cons_succ]
          refine wpAnyH_ready (rs := [5]) (by kernel_rfl) (by simp) ?_
          refine AllReadyH.cons (by rfl) (fun K hK => ?_) ?_
          · go_simp
            refine hK.out _ _ ?_ (fun hHeld => ?_)
            · (try dsimp only); first | with_reducible exact HK.out _ hp4 | with_reducible exact HK.out _ hpc | with_reducible exact HK.out _ hpb | with_reducible exact HK.out _ hpa | go_keep
            clear hK K
            try simp only [Act.put, List.setIfInBounds_toArray, List.set_cons_zero, List.set_cons_succ, List.getElem_toArray, List.getElem_cons_zero, List.getElem_cons_succ]
            refine wpAnyH_ready (rs := [6]) (by kernel_rfl) (by simp) ?_
            refine AllReadyH.cons (by rfl) (fun K hK => ?_) ?_
            · go_simp
              refine hK.out _ _ ?_ (fun hHeld => ?_)
              · (try dsimp only); first | with_reducible exact HK.out _ hp4 | with_reducible exact HK.out _ hpc | with_reducible exact HK.out _ hpb | with_reducible exact HK.out _ hpa | go_keep
              clear hK K
              try simp only [Act.put, List.setIfInBounds_toArray, List.set_cons_zero, List.set_cons_succ, List.getElem_toArray, List.getElem_cons_zero, List.getElem_cons_succ]
              refine wpAnyH_ready (rs := [7]) (by kernel_rfl) (by simp) ?_
              refine AllReadyH.cons (by rfl) (fun K hK => ?_) ?_
              · go_simp
                refine hK.out _ _ ?_ (fun hHeld => ?_)
                · (try dsimp only); first | with_reducible exact HK.out _ hp4 | with_reducible exact HK.out _ hpc | with_reducible exact HK.out _ hpb | with_reducible exact HK.out _ hpa | go_keep
                clear hK K
                try simp only [Act.put, List.setIfInBounds_toArray, List.set_cons_zero, List.set_cons_succ, List.getElem_toArray, List.getElem_cons_zero, List.getElem_cons_succ]
                refine wpAnyH_done (by kernel_rfl) ?_ _
                refine OnlyEx.mk' ?_
                simp only [HWA.out, HWB.out]
                first
                  | (with_reducible refine ⟨_, ?_, HF1.out⟩; simp only [puts, Act.put, List.setIfInBounds_toArray, List.set_cons_zero, List.set_cons_succ]; done)
                  | (with_reducible refine ⟨_, ?_, HF2.out⟩; simp only [puts, Act.put, List.setIfInBounds_toArray, List.set_cons_zero, List.set_cons_succ]; done)
              exact AllReadyH.nil
            exact AllReadyH.nil
          exact AllReadyH.nil
        refine AllReadyH.cons (by rfl) (fun K hK => ?_) ?_
        · go_simp
          refine hK.out _ _ ?_ (fun hHeld => ?_)
          · (try dsimp only); first | with_reducible exact HK.out _ hp4 | with_reducible exact HK.out _ hpc | with_reducible exact HK.out _ hpb | with_reducible exact HK.out _ hpa | go_keep
          clear hK K
          try simp only [Act.put, List.setIfInBounds_toArray, List.set_cons_zero, List.set_cons_succ, List.getElem_toArray, List.getElem_cons_zero, List.getElem_cons_succ]
          refine wpAnyH_ready (rs := [4]) (by kernel_rfl) (by simp) ?_
          refine AllReadyH.cons (by rfl) (fun K hK => ?_) ?_
          · go_simp
            refine hK.out _ _ ?_ (fun hHeld => ?_)
            · (try dsimp only); first | with_reducible exact HK.out _ hp4 | with_reducible exact HK.out _ hpc | with_reducible exact HK.out _ hpb | with_reducible exact HK.out _ hpa | go_keep
            clear hK K
            try simp only [Act.put, List.setIfInBounds_toArray, List.set_cons_zero, List.set_cons_succ, List.getElem_toArray, List.getElem_cons_zero, List.getElem_cons_succ]
            refine wpAnyH_ready (rs := [6]) (by kernel_rfl) (by simp) ?_
            refine AllReadyH.cons (by rfl) (fun K hK => ?_) ?_
            · go_simp
              refine hK.out _ _ ?_ (fun hHeld => ?_)
              · (try dsimp only); first | with_reducible exact HK.out _ hp4 | with_reducible exact HK.out _ hpc | with_reducible exact HK.out _ hpb | with_reducible exact HK.out _ hpa | go_keep
              clear hK K
              try simp only [Act.put, List.setIfInBounds_toArray, List.set_cons_zero, List.set_cons_succ, List.getElem_toArray, List.getElem_cons_zero, List.getElem_cons_succ]
              refine wpAnyH_ready (rs := [7]) (by kernel_rfl) (by simp) ?_
              refine AllReadyH.cons (by rfl) (fun K hK => ?_) ?_
              · go_simp
                refine hK.out _ _ ?_ (fun hHeld => ?_)
                · (try dsimp only); first | with_reducible exact HK.out _ hp4 | with_reducible exact HK.out _ hpc | with_reducible exact HK.out _ hpb | with_reducible exact HK.out _ hpa | go_keep
                clear hK K
                try simp only [Act.put, List.setIfInBounds_toArray, List.set_cons_zero, List.set_cons_succ, List.getElem_toArray, List.getElem_cons_zero, List.getElem_cons_succ]
                refine wpAnyH_done (by kernel_rfl) ?_ _
                refine OnlyEx.mk' ?_
                simp only [HWA.out, HWB.out]
                first
                  | (with_reducible refine ⟨_, ?_, HF1.out⟩; simp only [puts, Act.put, List.setIfInBounds_toArray, List.set_cons_zero, List.set_cons_succ]; done)
                  | (with_reducible refine ⟨_, ?_, HF2.out⟩; simp only [puts, Act.put, List.setIfInBounds_toArray, List.set_cons_zero, List.set_cons_succ]; done)
              exact AllReadyH.nil
            exact AllReadyH.nil
          exact AllReadyH.nil
        exact AllReadyH.nil
      refine AllReadyH.cons (by rfl) (fun K hK => ?_) ?_
      · go_simp
        refine hK.out _ _ ?_ (fun hHeld => ?_)
        · (try dsimp only); first | with_reducible exact HK.out _ hp4 | with_reducible exact HK.out _ hpc | with_reducible exact HK.out _ hpb | with_reducible exact HK.out _ hpa | go_keep
        clear hK K
        try simp only [Act.put, List.setIfInBounds_toArray, List.set_cons_zero, List.set_cons_succ, List.getElem_toArray, List.getElem_cons_zero, List.getElem_cons_succ]
        refine wpAnyH_ready (rs := [3, 5]) (by kernel_rfl) (by simp) ?_
        refine AllReadyH.cons (by rfl) (fun K hK => ?_) ?_
        · go_simp
          (with_reducible refine (ofE_second HTA.out HVY.out.1 HVY.out.2 HZ.out.2.2.1 HZ.out.2.2.2 ((Below.refl wa.heap.size wa).alloc (Nat.le_refl _) (.cells #[.bool false, .slice none 0 0, .slice none 0 0, .bool false, .slice none 0 0, .slice none 0 0] 73))).mono ?_); rintro e w4' ⟨j0, j1, j2, j3, j4, j5, j6, l0, l1, l2, l3, l4, l5, l6, rfl, H2, HG4⟩; have hp4 := H2.out.one.below; obtain ⟨k0, k1, k2, k3, k4, k5, k6, k7, k8, k9, k10, k11, k12, k13, k14⟩ := HK.out _ hp4; obtain ⟨z0, z1, z2, z3, z4, z5, z6, z7, z8, z9, z10, z11⟩ := far3 HWL.out hp4; have HX1 := Lib.hid (Six.kept (ty := 73) (heap_alloc_new wa _) HG4.out); have hf1 := (H2.out.end1a HX1.out HTA.out.below.size); have hf2 := (H2.out.end1b HX1.out HTA.out.below.size); dsimp only [Go.Proofs.YtomoemgoglghlaaGreatDoor.put6, Go.Proofs.YtomoemgoglghlaaGreatDoor.set6, c6] at hf1 hf2; obtain ⟨WA, hWA, hf3⟩ := hf1.split; obtain ⟨WB, hWB, hf4⟩ := hf2.split; have HF1 := Lib.hid hf3; have HF2 := Lib.hid hf4; have HWA := Lib.hid hWA; have HWB := Lib.hid hWB; clear hf1 hf2 hf3 hf4 hWA hWB; obtain ⟨d0, d1, d2, d3, d4, d5, d6, d7, d8, d9, d10, d11⟩ := cells6 HX1.out; obtain ⟨ne0, ne1, ne2⟩ := six_ne HX1.out
          refine hK.out _ _ ?_ (fun hHeld => ?_)
          · (try dsimp only); first | with_reducible exact HK.out _ hp4 | with_reducible exact HK.out _ hpc | with_reducible exact HK.out _ hpb | with_reducible exact HK.out _ hpa | go_keep
          clear hK K
          try simp only [Act.put, List.setIfInBounds_toArray, List.set_cons_zero, List.set_cons_succ, List.getElem_toArray, List.getElem_cons_zero, List.getElem_cons_succ]
          refine wpAnyH_ready (rs := [5]) (by kernel_rfl) (by simp) ?_
          refine AllReadyH.cons (by rfl) (fun K hK => ?_) ?_
          · go_simp
            refine hK.out _ _ ?_ (fun hHeld => ?_)
            · (try dsimp only); first | with_reducible exact HK.out _ hp4 | with_reducible exact HK.out _ hpc | with_reducible exact HK.out _ hpb | with_reducible exact HK.out _ hpa | go_keep
            clear hK K
            try simp only [Act.put, List.setIfInBounds_toArray, List.set_cons_zero, List.set_cons_succ, List.getElem_toArray, List.getElem_cons_zero, List.getElem_cons_succ]
            refine wpAnyH_ready (rs := [6]) (by kernel_rfl) (by simp) ?_
            refine AllReadyH.cons (by rfl) (fun K hK => ?_) ?_
            · go_simp
              refine hK.out _ _ ?_ (fun hHeld => ?_)
              · (try dsimp only); first | with_reducible exact HK.out _ hp4 | with_reducible exact HK.out _ hpc | with_reducible exact HK.out _ hpb | with_reducible exact HK.out _ hpa | go_keep
              clear hK K
              try simp only [Act.put, List.setIfInBounds_toArray, List.set_cons_zero, List.set_cons_succ, List.getElem_toArray, List.getElem_cons_zero, List.getElem_cons_succ]
              refine wpAnyH_ready (rs := [7]) (by kernel_rfl) (by simp) ?_
              refine AllReadyH.cons (by rfl) (fun K hK => ?_) ?_
              · go_simp
                refine hK.out _ _ ?_ (fun hHeld => ?_)
                · (try dsimp only); first | with_reducible exact HK.out _ hp4 | with_reducible exact HK.out _ hpc | with_reducible exact HK.out _ hpb | with_reducible exact HK.out _ hpa | go_keep
                clear hK K
                try simp only [Act.put, List.setIfInBounds_toArray, List.set_cons_zero, List.set_cons_succ, List.getElem_toArray, List.getElem_cons_zero, List.getElem_cons_succ]
                refine wpAnyH_done (by kernel_rfl) ?_ _
                refine OnlyEx.mk' ?_
                simp only [HWA.out, HWB.out]
                first
                  | (with_reducible refine ⟨_, ?_, HF1.out⟩; simp only [puts, Act.put, List.setIfInBounds_toArray, List.set_cons_zero, List.set_cons_succ]; done)
                  | (with_reducible refine ⟨_, ?_, HF2.out⟩; simp only [puts, Act.put, List.setIfInBounds_toArray, List.set_cons_zero, List.set_cons_succ]; done)
              exact AllReadyH.nil
            exact AllReadyH.nil
          exact AllReadyH.nil
        refine AllReadyH.cons (by rfl) (fun K hK => ?_) ?_
        · go_simp
          refine hK.out _ _ ?_ (fun hHeld => ?_)
          · (try dsimp only); first | with_reducible exact HK.out _ hp4 | with_reducible exact HK.out _ hpc | with_reducible exact HK.out _ hpb | with_reducible exact HK.out _ hpa | go_keep
          clear hK K
          try simp only [Act.put, List.setIfInBounds_toArray, List.set_cons_zero, List.set_cons_succ, List.getElem_toArray, List.getElem_cons_zero, List.getElem_cons_succ]
          refine wpAnyH_ready (rs := [3]) (by kernel_rfl) (by simp) ?_
          refine AllReadyH.cons (by rfl) (fun K hK => ?_) ?_
          · go_simp
            (with_reducible refine (ofE_second HTA.out HVY.out.1 HVY.out.2 HZ.out.2.2.1 HZ.out.2.2.2 (((Below.refl wa.heap.size wa).alloc (Nat.le_refl _) (.cells #[.bool false, .slice none 0 0, .slice none 0 0, .bool false, .slice none 0 0, .slice none 0 0] 73)).alloc (by simp) (.cells #[.bool false, .slice none 0 0, .slice none 0 0, .bool false, .slice none 0 0, .slice none 0 0] 73))).mono ?_); rintro e w4' ⟨j0, j1, j2, j3, j4, j5, j6, l0, l1, l2, l3, l4, l5, l6, rfl, H2, HG4⟩; have hp4 := H2.out.one.below; obtain ⟨k0, k1, k2, k3, k4, k5, k6, k7, k8, k9, k10, k11, k12, k13, k14⟩ := HK.out _ hp4; obtain ⟨z0, z1, z2, z3, z4, z5, z6, z7, z8, z9, z10, z11⟩ := far3 HWL.out hp4; have HX1 := Lib.hid (Six.kept (Six.kept (ty := 73) (heap_alloc_new wa _) ((Below.refl _ _).alloc (Nat.le_refl _) _)) HG4.out); have HX2 := Lib.hid (sixE_second wa HG4.out); have hf1 := (H2.out.end2 HX1.out HX2.out (Nat.ne_of_lt (Nat.lt_succ_self _)) HTA.out.below.size (Nat.le_succ_of_le HTA.out.below.size)); have hf2 := (H2.out.end2 HX2.out HX1.out (Nat.ne_of_gt (Nat.lt_succ_self _)) (Nat.le_succ_of_le HTA.out.below.size) HTA.out.below.size); dsimp only [Go.Proofs.YtomoemgoglghlaaGreatDoor.put6, Go.Proofs.YtomoemgoglghlaaGreatDoor.set6, c6] at hf1 hf2; obtain ⟨WA, hWA, hf3⟩ := hf1.split; obtain ⟨WB, hWB, hf4⟩ := hf2.split; have HF1 := Lib.hid hf3; have HF2 := Lib.hid hf4; have HWA := Lib.hid hWA; have HWB := Lib.hid hWB; clear hf1 hf2 hf3 hf4 hWA hWB; obtain ⟨d0, d1, d2, d3, d4, d5, d6, d7, d8, d9, d10, d11⟩ := cells6 HX1.out; obtain ⟨dd0, dd1, dd2, dd3, dd4, dd5, dd6, dd7, dd8, dd9, dd10, dd11⟩ := cells6 HX2.out
            refine hK.out _ _ ?_ (fun hHeld => ?_)
            · (try dsimp only); first | with_reducible exact HK.out _ hp4 | with_reducible exact HK.out _ hpc | with_reducible exact HK.out _ hpb | with_reducible exact HK.out _ hpa | go_keep
            clear hK K
            try simp only [Act.put, List.setIfInBounds_toArray, List.set_cons_zero, List.set_cons_succ, List.getElem_toArray, List.getElem_cons_zero, List.getElem_cons_succ]
            refine wpAnyH_ready (rs := [6]) (by kernel_rfl) (by simp) ?_
            refine AllReadyH.cons (by rfl) (fun K hK => ?_) ?_
            · go_simp
              refine hK.out _ _ ?_ (fun hHeld => ?_)
              · (try dsimp only); first | with_reducible exact HK.out _ hp4 | with_reducible exact HK.out _ hpc | with_reducible exact HK.out _ hpb | with_reducible exact HK.out _ hpa | go_keep
              clear hK K
              try simp only [Act.put, List.setIfInBounds_toArray, List.set_cons_zero, List.set_cons_succ, List.getElem_toArray, List.getElem_cons_zero, List.getElem_cons_succ]
              refine wpAnyH_ready (rs := [7]) (by kernel_rfl) (by simp) ?_
              refine AllReadyH.cons (by rfl) (fun K hK => ?_) ?_
              · go_simp
                refine hK.out _ _ ?_ (fun hHeld => ?_)
                · (try dsimp only); first | with_reducible exact HK.out _ hp4 | with_reducible exact HK.out _ hpc | with_reducible exact HK.out _ hpb | with_reducible exact HK.out _ hpa | go_keep
                clear hK K
                try simp only [Act.put, List.setIfInBounds_toArray, List.set_cons_zero, List.set_cons_succ, List.getElem_toArray, List.getElem_cons_zero, List.getElem_cons_succ]
                refine wpAnyH_done (by kernel_rfl) ?_ _
                refine OnlyEx.mk' ?_
                simp only [HWA.out, HWB.out]
                first
                  | (with_reducible refine ⟨_, ?_, HF1.out⟩; simp only [puts, Act.put, List.setIfInBounds_toArray, List.set_cons_zero, List.set_cons_succ]; done)
                  | (with_reducible refine ⟨_, ?_, HF2.out⟩; simp only [puts, Act.put, List.setIfInBounds_toArray, List.set_cons_zero, List.set_cons_succ]; done)
              exact AllReadyH.nil
            exact AllReadyH.nil
          exact AllReadyH.nil
        exact AllReadyH.nil
      refine AllReadyH.cons (by rfl) (fun K hK => ?_) ?_
      · go_simp
        refine hK.out _ _ ?_ (fun hHeld => ?_)
        · (try dsimp only); first | with_reducible exact HK.out _ hp4 | with_reducible exact HK.out _ hpc | with_reducible exact HK.out _ hpb | with_reducible exact HK.out _ hpa | go_keep
        clear hK K
        try simp only [Act.put, List.setIfInBounds_toArray, List.set_cons_zero, List.set_cons_succ, List.getElem_toArray, List.getElem_cons_zero, List.getElem_cons_succ]
        refine wpAnyH_ready (rs := [3, 4]) (by kernel_rfl) (by simp) ?_
        refine AllReadyH.cons (by rfl) (fun K hK => ?_) ?_
        · go_simp
          (with_reducible refine (ofE_second HTA.out HVY.out.1 HVY.out.2 HZ.out.2.2.1 HZ.out.2.2.2 ((Below.refl wa.heap.size wa).alloc (Nat.le_refl _) (.cells #[.bool false, .slice none 0 0, .slice none 0 0, .bool false, .slice none 0 0, .slice none 0 0] 73))).mono ?_); rintro e w4' ⟨j0, j1, j2, j3, j4, j5, j6, l0, l1, l2, l3, l4, l5, l6, rfl, H2, HG4⟩; have hp4 := H2.out.one.below; obtain ⟨k0, k1, k2, k3, k4, k5, k6, k7, k8, k9, k10, k11, k12, k13, k14⟩ := HK.out _ hp4; obtain ⟨z0, z1, z2, z3, z4, z5, z6, z7, z8, z9, z10, z11⟩ := far3 HWL.out hp4; have HX1 := Lib.hid (Six.kept (ty := 73) (heap_alloc_new wa _) HG4.out); have hf1 := (H2.out.end1a HX1.out HTA.out.below.size); have hf2 := (H2.out.end1b HX1.out HTA.out.below.size); dsimp only [Go.Proofs.YtomoemgoglghlaaGreatDoor.put6, Go.Proofs.YtomoemgoglghlaaGreatDoor.set6, c6] at hf1 hf2; obtain ⟨WA, hWA, hf3⟩ := hf1.split; obtain ⟨WB, hWB, hf4⟩ := hf2.split; have HF1 := Lib.hid hf3; have HF2 := Lib.hid hf4; have HWA := Lib.hid hWA; have HWB := Lib.hid hWB; clear hf1 hf2 hf3 hf4 hWA hWB; obtain ⟨d0, d1, d2, d3, d4, d5, d6, d7, d8, d9, d10, d11⟩ := cells6 HX1.out; obtain ⟨ne0, ne1, ne2⟩ := six_ne HX1.out
          refine hK.out _ _ ?_ (fun hHeld => ?_)
          · (try dsimp only); first | with_reducible exact HK.out _ hp4 | with_reducible exact HK.out _ hpc | with_reducible exact HK.out _ hpb | with_reducible exact HK.out _ hpa | go_keep
          clear hK K
          try simp only [Act.put, List.setIfInBounds_toArray, List.set_cons_zero, List.set_cons_succ, List.getElem_toArray, List.getElem_cons_zero, List.getElem_cons_succ]
          refine wpAnyH_ready (rs := [4]) (by kernel_rfl) (by simp) ?_
          refine AllReadyH.cons (by rfl) (fun K hK => ?_) ?_
          · go_simp
            refine hK.out _ _ ?_ (fun hHeld => ?_)
            · (try dsimp only); first | with_reducible exact HK.out _ hp4 | with_reducible exact HK.out _ hpc | with_reducible exact HK.out _ hpb | with_reducible exact HK.out _ hpa | go_keep
            clear hK K
            try simp only [Act.put, List.setIfInBounds_toArray, List.set_cons_zero, List.set_cons_succ, List.getElem_toArray, List.getElem_cons_zero, List.getElem_cons_succ]
            refine wpAnyH_ready (rs := [6]) (by kernel_rfl) (by simp) ?_
            refine AllReadyH.cons (by rfl) (fun K hK => ?_) ?_
            · go_simp
              refine hK.out _ _ ?_ (fun hHeld => ?_)
              · (try dsimp only); first | with_reducible exact HK.out _ hp4 | with_reducible exact HK.out _ hpc | with_reducible exact HK.out _ hpb | with_reducible exact HK.out _ hpa | go_keep
              clear hK K
              try simp only [Act.put, List.setIfInBounds_toArray, List.set_cons_zero, List.set_cons_succ, List.getElem_toArray, List.getElem_cons_zero, List.getElem_cons_succ]
              refine wpAnyH_ready (rs := [7]) (by kernel_rfl) (by simp) ?_
              refine AllReadyH.cons (by rfl) (fun K hK => ?_) ?_
              · go_simp
                refine hK.out _ _ ?_ (fun hHeld => ?_)
                · (try dsimp only); first | with_reducible exact HK.out _ hp4 | with_reducible exact HK.out _ hpc | with_reducible exact HK.out _ hpb | with_reducible exact HK.out _ hpa | go_keep
                clear hK K
                try simp only [Act.put, List.setIfInBounds_toArray, List.set_cons_zero, List.set_cons_succ, List.getElem_toArray, List.getElem_cons_zero, List.getElem_cons_succ]
                refine wpAnyH_done (by kernel_rfl) ?_ _
                refine OnlyEx.mk' ?_
                simp only [HWA.out, HWB.out]
                first
                  | (with_reducible refine ⟨_, ?_, HF1.out⟩; simp only [puts, Act.put, List.setIfInBounds_toArray, List.set_cons_zero, List.set_cons_succ]; done)
                  | (with_reducible refine ⟨_, ?_, HF2.out⟩; simp only [puts, Act.put, List.setIfInBounds_toArray, List.set_cons_zero, List.set_cons_succ]; done)
              exact AllReadyH.nil
            exact AllReadyH.nil
          exact AllReadyH.nil
        refine AllReadyH.cons (by rfl) (fun K hK => ?_) ?_
        · go_simp
          refine hK.out _ _ ?_ (fun hHeld => ?_)
          · (try dsimp only); first | with_reducible exact HK.out _ hp4 | with_reducible exact HK.out _ hpc | with_reducible exact HK.out _ hpb | with_reducible exact HK.out _ hpa | go_keep
          clear hK K
          try simp only [Act.put, List.setIfInBounds_toArray, List.set_cons_zero, List.set_cons_succ, List.getElem_toArray, List.getElem_cons_zero, List.getElem_cons_succ]
          refine wpAnyH_ready (rs := [3]) (by kernel_rfl) (by simp) ?_
          refine AllReadyH.cons (by rfl) (fun K hK => ?_) ?_
          · go_simp
            (with_reducible refine (ofE_second HTA.out HVY.out.1 HVY.out.2 HZ.out.2.2.1 HZ.out.2.2.2 (((Below.refl wa.heap.size wa).alloc (Nat.le_refl _) (.cells #[.bool false, .slice none 0 0, .slice none 0 0, .bool false, .slice none 0 0, .slice none 0 0] 73)).alloc (by simp) (.cells #[.bool false, .slice none 0 0, .slice none 0 0, .bool false, .slice none 0 0, .slice none 0 0] 73))).mono ?_); rintro e w4' ⟨j0, j1, j2, j3, j4, j5, j6, l0, l1, l2, l3, l4, l5, l6, rfl, H2, HG4⟩; have hp4 := H2.out.one.below; obtain ⟨k0, k1, k2, k3, k4, k5, k6, k7, k8, k9, k10, k11, k12, k13, k14⟩ := HK.out _ hp4; obtain ⟨z0, z1, z2, z3, z4, z5, z6, z7, z8, z9, z10, z11⟩ := far3 HWL.out hp4; have HX1 := Lib.hid (Six.kept (Six.kept (ty := 73) (heap_alloc_new wa _) ((Below.refl _ _).alloc (Nat.le_refl _) _)) HG4.out); have HX2 := Lib.hid (sixE_second wa HG4.out); have hf1 := (H2.out.end2 HX1.out HX2.out (Nat.ne_of_lt (Nat.lt_succ_self _)) HTA.out.below.size (Nat.le_succ_of_le HTA.out.below.size)); have hf2 := (H2.out.end2 HX2.out HX1.out (Nat.ne_of_gt (Nat.lt_succ_self _)) (Nat.le_succ_of_le HTA.out.below.size) HTA.out.below.size); dsimp only [Go.Proofs.YtomoemgoglghlaaGreatDoor.put6, Go.Proofs.YtomoemgoglghlaaGreatDoor.set6, c6] at hf1 hf2; obtain ⟨WA, hWA, hf3⟩ := hf1.split; obtain ⟨WB, hWB, hf4⟩ := hf2.split; have HF1 := Lib.hid hf3; have HF2 := Lib.hid hf4; have HWA := Lib.hid hWA; have HWB := Lib.hid hWB; clear hf1 hf2 hf3 hf4 hWA hWB; obtain ⟨d0, d1, d2, d3, d4, d5, d6, d7, d8, d9, d10, d11⟩ := cells6 HX1.out; obtain ⟨dd0, dd1, dd2, dd3, dd4, dd5, dd6, dd7, dd8, dd9, dd10, dd11⟩ := cells6 HX2.out
            refine hK.out _ _ ?_ (fun hHeld => ?_)
            · (try dsimp only); first | with_reducible exact HK.out _ hp4 | with_reducible exact HK.out _ hpc | with_reducible exact HK.out _ hpb | with_reducible exact HK.out _ hpa | go_keep
            clear hK K
            try simp only [Act.put, List.setIfInBounds_toArray, List.set_cons_zero, List.set_cons_succ, List.getElem_toArray, List.getElem_cons_zero, List.getElem_cons_succ]
            refine wpAnyH_ready (rs := [6]) (by kernel_rfl) (by simp) ?_
            refine AllReadyH.cons (by rfl) (fun K hK => ?_) ?_
            · go_simp
              refine hK.out _ _ ?_ (fun hHeld => ?_)
              · (try dsimp only); first | with_reducible exact HK.out _ hp4 | with_reducible exact HK.out _ hpc | with_reducible exact HK.out _ hpb | with_reducible exact HK.out _ hpa | go_keep
              clear hK K
              try simp only [Act.put, List.setIfInBounds_toArray, List.set_cons_zero, List.set_cons_succ, List.getElem_toArray, List.getElem_cons_zero, List.getElem_cons_succ]
              refine wpAnyH_ready (rs := [7]) (by kernel_rfl) (by simp) ?_
              refine AllReadyH.cons (by rfl) (fun K hK => ?_) ?_
              · go_simp
                refine hK.out _ _ ?_ (fun hHeld => ?_)
                · (try dsimp only); first | with_reducible exact HK.out _ hp4 | with_reducible exact HK.out _ hpc | with_reducible exact HK.out _ hpb | with_reducible exact HK.out _ hpa | go_keep
                clear hK K
                try simp only [Act.put, List.setIfInBounds_toArray, List.set_cons_zero, List.set_cons_succ, List.getElem_toArray, List.getElem_cons_zero, List.getElem_cons_succ]
                refine wpAnyH_done (by kernel_rfl) ?_ _
                refine OnlyEx.mk' ?_
                simp only [HWA.out, HWB.out]
                first
                  | (with_reducible refine ⟨_, ?_, HF1.out⟩; simp only [puts, Act.put, List.setIfInBounds_toArray, List.set_cons_zero, List.set_cons_succ]; done)
                  | (with_reducible refine ⟨_, ?_, HF2.out⟩; simp only [puts, Act.put, List.setIfInBounds_toArray, List.set_cons_zero, List.set_cons_succ]; done)
              exact AllReadyH.nil
            exact AllReadyH.nil
          exact AllReadyH.nil
        exact AllReadyH.nil
      exact AllReadyH.nil
    refine AllReadyH.cons (by rfl) (fun K hK => ?_) ?_
    · go_simp
      refine hK.out _ _ ?_ (fun hHeld => ?_)
      · (try dsimp only); first | with_reducible exact HK.out _ hp4 | with_reducible exact HK.out _ hpc | with_reducible exact HK.out _ hpb | with_reducible exact HK.out _ hpa | go_keep
      clear hK K
      try simp only [Act.put, List.setIfInBounds_toArray, List.set_cons_zero, List.set_cons_succ, List.getElem_toArray, List.getElem_cons_zero, List.getElem_cons_succ]
      refine wpAnyH_ready (rs := [1, 5]) (by kernel_rfl) (by simp) ?_
      refine AllReadyH.cons (by rfl) (fun K hK => ?_) ?_
      · go_simp
        (with_reducible refine HDB.out.mono ?_); rintro e wb ⟨m0, m1, m2, m3, m4, m5, m6, n0, n1, n2, n3, n4, n5, n6, rfl, HTB, HGB⟩; have hpb := HTB.out.below; obtain ⟨o0, o1, o2, o3, o4, o5, o6, o7, o8, o9, o10, o11, o12, o13, o14⟩ := HK.out _ hpb; obtain ⟨v0, v1, v2, v3, v4, v5, v6, v7, v8, v9, v10, v11⟩ := far3 HWL.out hpb; have HBB := Lib.hid (HZB.out.kept HGB.out)
        refine hK.out _ _ ?_ (fun hHeld => ?_)
        · (try dsimp only); first | with_reducible exact HK.out _ hp4 | with_reducible exact HK.out _ hpc | with_reducible exact HK.out _ hpb | with_reducible exact HK.out _ hpa | go_keep
        clear hK K
        try simp only [Act.put, List.setIfInBounds_toArray, List.set_cons_zero, List.set_cons_succ, List.getElem_toArray, List.getElem_cons_zero, List.getElem_cons_succ]
        refine wpAnyH_ready (rs := [3, 5]) (by kernel_rfl) (by simp) ?_
        refine AllReadyH.cons (by rfl) (fun K hK => ?_) ?_
        · go_simp
          (with_reducible refine (ofE_second HTB.out HVY.out.1 HVY.out.2 HZ.out.2.2.1 HZ.out.2.2.2 (Below.refl _ _)).mono ?_); rintro e w4' ⟨j0, j1, j2, j3, j4, j5, j6, l0, l1, l2, l3, l4, l5, l6, rfl, H2, HG4⟩; have hp4 := H2.out.one.below; obtain ⟨k0, k1, k2, k3, k4, k5, k6, k7, k8, k9, k10, k11, k12, k13, k14⟩ := HK.out _ hp4; obtain ⟨z0, z1, z2, z3, z4, z5, z6, z7, z8, z9, z10, z11⟩ := far3 HWL.out hp4; have HX1 := Lib.hid (HBB.out.kept HG4.out); have hf1 := (H2.out.end1a HX1.out HLE.out.1); have hf2 := (H2.out.end1b HX1.out HLE.out.1); dsimp only [Go.Proofs.YtomoemgoglghlaaGreatDoor.put6, Go.Proofs.YtomoemgoglghlaaGreatDoor.set6, c6] at hf1 hf2; obtain ⟨WA, hWA, hf3⟩ := hf1.split; obtain ⟨WB, hWB, hf4⟩ := hf2.split; have HF1 := Lib.hid hf3; have HF2 := Lib.hid hf4; have HWA := Lib.hid hWA; have HWB := Lib.hid hWB; clear hf1 hf2 hf3 hf4 hWA hWB; obtain ⟨d0, d1, d2, d3, d4, d5, d6, d7, d8, d9, d10, d11⟩ := cells6 HX1.out; obtain ⟨ne0, ne1, ne2⟩ := six_ne HX1.out
          refine hK.out _ _ ?_ (fun hHeld => ?_)
          · (try dsimp only); first | with_reducible exact HK.out _ hp4 | with_reducible exact HK.out _ hpc | with_reducible exact HK.out _ hpb | with_reducible exact HK.out _ hpa | go_keep
          clear hK K
          try simp only [Act.put, List.setIfInBounds_toArray, List.set_cons_zero, List.set_cons_succ, List.getElem_toArray, List.getElem_cons_zero, List.getElem_cons_succ]
          refine wpAnyH_ready (rs := [5]) (by kernel_rfl) (by simp) ?_
          refine AllReadyH.cons (by rfl) (fun K hK => ?_) ?_
          · go_simp
            refine hK.out _ _ ?_ (fun hHeld => ?_)
            · (try dsimp only); first | with_reducible exact HK.out _ hp4 | with_reducible exact HK.out _ hpc | with_reducible exact HK.out _ hpb | with_reducible exact HK.out _ hpa | go_keep
            clear hK K
            try simp only [Act.put, List.setIfInBounds_toArray, List.set_cons_zero, List.set_cons_succ, List.getElem_toArray, List.getElem_cons_zero, List.getElem_cons_succ]
            refine wpAnyH_ready (rs := [6]) (by kernel_rfl) (by simp) ?_
            refine AllReadyH.cons (by rfl) (fun K hK => ?_) ?_
            · go_simp
              refine hK.out _ _ ?_ (fun hHeld => ?_)
              · (try dsimp only); first | with_reducible exact HK.out _ hp4 | with_reducible exact HK.out _ hpc | with_reducible exact HK.out _ hpb | with_reducible exact HK.out _ hpa | go_keep
              clear hK K
              try simp only [Act.put, List.setIfInBounds_toArray, List.set_cons_zero, List.set_cons_succ, List.getElem_toArray, List.getElem_cons_zero, List.getElem_cons_succ]
              refine wpAnyH_ready (rs := [7]) (by kernel_rfl) (by simp) ?_
              refine AllReadyH.cons (by rfl) (fun K hK => ?_) ?_
              · go_simp
                refine hK.out _ _ ?_ (fun hHeld => ?_)
                · (try dsimp only); first | with_reducible exact HK.out _ hp4 | with_reducible exact HK.out _ hpc | with_reducible exact HK.out _ hpb | with_reducible exact HK.out _ hpa | go_keep
                clear hK K
                try simp only [Act.put, List.setIfInBounds_toArray, List.set_cons_zero, List.set_cons_succ, List.getElem_toArray, List.getElem_cons_zero, List.getElem_cons_succ]
                refine wpAnyH_done (by kernel_rfl) ?_ _
                refine OnlyEx.mk' ?_
                simp only [HWA.out, HWB.out]
                first
                  | (with_reducible refine ⟨_, ?_, HF1.out⟩; simp only [puts, Act.put, List.setIfInBounds_toArray, List.set_cons_zero, List.set_cons_succ]; done)
                  | (with_reducible refine ⟨_, ?_, HF2.out⟩; simp only [puts, Act.put, List.setIfInBounds_toArray, List.set_cons_zero, List.set_cons_succ]; done)
              exact AllReadyH.nil
            exact AllReadyH.nil
          exact AllReadyH.nil
        refine AllReadyH.cons (by rfl) (fun K hK => ?_) ?_
        · go_simp
          refine hK.out _ _ ?_ (fun hHeld => ?_)
          · (try dsimp only); first | with_reducible exact HK.out _ hp4 | with_reducible exact HK.out _ hpc | with_reducible exact HK.out _ hpb | with_reducible exact HK.out _ hpa | go_keep
          clear hK K
          try simp only [Act.put, List.setIfInBounds_toArray, List.set_cons_zero, List.set_cons_succ, List.getElem_toArray, List.getElem_cons_zero, List.getElem_cons_succ]
          refine wpAnyH_ready (rs := [3]) (by kernel_rfl) (by simp) ?_
          refine AllReadyH.cons (by rfl) (fun K hK => ?_) ?_
          · go_simp
            (with_reducible refine (ofE_second HTB.out HVY.out.1 HVY.out.2 HZ.out.2.2.1 HZ.out.2.2.2 ((Below.refl wb.heap.size wb).alloc (Nat.le_refl _) (.cells #[.bool false, .slice none 0 0, .slice none 0 0, .bool false, .slice none 0 0, .slice none 0 0] 73))).mono ?_); rintro e w4' ⟨j0, j1, j2, j3, j4, j5, j6, l0, l1, l2, l3, l4, l5, l6, rfl, H2, HG4⟩; have hp4 := H2.out.one.below; obtain ⟨k0, k1, k2, k3, k4, k5, k6, k7, k8, k9, k10, k11, k12, k13, k14⟩ := HK.out _ hp4; obtain ⟨z0, z1, z2, z3, z4, z5, z6, z7, z8, z9, z10, z11⟩ := far3 HWL.out hp4; have HX2 := Lib.hid (Six.kept (ty := 73) (heap_alloc_new wb _) HG4.out); have HX1 := Lib.hid ((HBB.out.kept ((Below.refl _ _).alloc (Nat.le_refl _) _)).kept HG4.out); have hgh : w4.heap.size ≠ wb.heap.size := Nat.ne_of_lt (Array.getElem?_eq_some_iff.1 HBB.out).1; have hhg := Ne.symm hgh; have hf1 := (H2.out.end2 HX1.out HX2.out hgh HLE.out.1 HTB.out.below.size); have hf2 := (H2.out.end2 HX2.out HX1.out hhg HTB.out.below.size HLE.out.1); dsimp only [Go.Proofs.YtomoemgoglghlaaGreatDoor.put6, Go.Proofs.YtomoemgoglghlaaGreatDoor.set6, c6] at hf1 hf2; obtain ⟨WA, hWA, hf3⟩ := hf1.split; obtain ⟨WB, hWB, hf4⟩ := hf2.split; have HF1 := Lib.hid hf3; have HF2 := Lib.hid hf4; have HWA := Lib.hid hWA; have HWB := Lib.hid hWB; clear hf1 hf2 hf3 hf4 hWA hWB; obtain ⟨d0, d1, d2, d3, d4, d5, d6, d7, d8, d9, d10, d11⟩ := cells6 HX1.out; obtain ⟨dd0, dd1, dd2, dd3, dd4, dd5, dd6, dd7, dd8, dd9, dd10, dd11⟩ := cells6 HX2.out
            refine hK.out _ _ ?_ (fun hHeld => ?_)
            · (try dsimp only); first | with_reducible exact HK.out _ hp4 | with_reducible exact HK.out _ hpc | with_reducible exact HK.out _ hpb | with_reducible exact HK.out _ hpa | go_keep
            clear hK K
            try simp only [Act.put, List.setIfInBounds_toArray, List.set_cons_zero, List.set_cons_succ, List.getElem_toArray, List.getElem_cons_zero, List.getElem_cons_succ]
            refine wpAnyH_ready (rs := [6]) (by kernel_rfl) (by simp) ?_
            refine AllReadyH.cons (by rfl) (fun K hK => ?_) ?_
            · go_simp
              refine hK.out _ _ ?_ (fun hHeld => ?_)
              · (try dsimp only); first | with_reducible exact HK.out _ hp4 | with_reducible exact HK.out _ hpc | with_reducible exact HK.out _ hpb | with_reducible exact HK.out _ hpa | go_keep
              clear hK K
              try simp only [Act.put, List.setIfInBounds_toArray, List.set_cons_zero, List.set_cons_succ, List.getElem_toArray, List.getElem_cons_zero, List.getElem_cons_succ]
              refine wpAnyH_ready (rs := [7]) (by kernel_rfl) (by simp) ?_
              refine AllReadyH.cons (by rfl) (fun K hK => ?_) ?_
              · go_simp
                refine hK.out _ _ ?_ (fun hHeld => ?_)
                · (try dsimp only); first | with_reducible exact HK.out _ hp4 | with_reducible exact HK.out _ hpc | with_reducible exact HK.out _ hpb | with_reducible exact HK.out _ hpa | go_keep
                clear hK K
                try simp only [Act.put, List.setIfInBounds_toArray, List.set_cons_zero, List.set_cons_succ, List.getElem_toArray, List.getElem_cons_zero, List.getElem_cons_succ]
                refine wpAnyH_done (by kernel_rfl) ?_ _
                refine OnlyEx.mk' ?_
                simp only [HWA.out, HWB.out]
                first
                  | (with_reducible refine ⟨_, ?_, HF1.out⟩; simp only [puts, Act.put, List.setIfInBounds_toArray, List.set_cons_zero, List.set_cons_succ]; done)
                  | (with_reducible refine ⟨_, ?_, HF2.out⟩; simp only [puts, Act.put, List.setIfInBounds_toArray, List.set_cons_zero, List.set_cons_succ]; done)
              exact AllReadyH.nil
            exact AllReadyH.nil
          exact AllReadyH.nil
        exact AllReadyH.nil
      refine AllReadyH.cons (by rfl) (fun K hK => ?_) ?_
      · go_simp
        refine hK.out _ _ ?_ (fun hHeld => ?_)
        · (try dsimp only); first | with_reducible exact HK.out _ hp4 | with_reducible exact HK.out _ hpc | with_reducible exact HK.out _ hpb | with_reducible exact HK.out _ hpa | go_keep
        clear hK K
        try simp only [Act.put, List.setIfInBounds_toArray, List.set_cons_zero, List.set_cons_succ, List.getElem_toArray, List.getElem_cons_zero, List.getElem_cons_succ]
        refine wpAnyH_ready (rs := [1]) (by kernel_rfl) (by simp) ?_
        refine AllReadyH.cons (by rfl) (fun K hK => ?_) ?_
        · go_simp
          (with_reducible refine HDC.out.mono ?_); rintro e wc ⟨m0, m1, m2, m3, m4, m5, m6, n0, n1, n2, n3, n4, n5, n6, rfl, HTC, HGC⟩; have hpc := HTC.out.below; obtain ⟨o0, o1, o2, o3, o4, o5, o6, o7, o8, o9, o10, o11, o12, o13, o14⟩ := HK.out _ hpc; obtain ⟨v0, v1, v2, v3, v4, v5, v6, v7, v8, v9, v10, v11⟩ := far3 HWL.out hpc; have HC1 := Lib.hid (HZC.out.1.kept HGC.out); have HC2 := Lib.hid (HZC.out.2.kept HGC.out)
          refine hK.out _ _ ?_ (fun hHeld => ?_)
          · (try dsimp only); first | with_reducible exact HK.out _ hp4 | with_reducible exact HK.out _ hpc | with_reducible exact HK.out _ hpb | with_reducible exact HK.out _ hpa | go_keep
          clear hK K
          try simp only [Act.put, List.setIfInBounds_toArray, List.set_cons_zero, List.set_cons_succ, List.getElem_toArray, List.getElem_cons_zero, List.getElem_cons_succ]
          refine wpAnyH_ready (rs := [3]) (by kernel_rfl) (by simp) ?_
          refine AllReadyH.cons (by rfl) (fun K hK => ?_) ?_
          · go_simp
            (with_reducible refine (ofE_second HTC.out HVY.out.1 HVY.out.2 HZ.out.2.2.1 HZ.out.2.2.2 (Below.refl _ _)).mono ?_); rintro e w4' ⟨j0, j1, j2, j3, j4, j5, j6, l0, l1, l2, l3, l4, l5, l6, rfl, H2, HG4⟩; have hp4 := H2.out.one.below; obtain ⟨k0, k1, k2, k3, k4, k5, k6, k7, k8, k9, k10, k11, k12, k13, k14⟩ := HK.out _ hp4; obtain ⟨z0, z1, z2, z3, z4, z5, z6, z7, z8, z9, z10, z11⟩ := far3 HWL.out hp4; have HX1 := Lib.hid (HC1.out.kept HG4.out); have HX2 := Lib.hid (HC2.out.kept HG4.out); have hf1 := (H2.out.end2 HX1.out HX2.out HE1.out HLE.out.1 HLE.out.2); have hf2 := (H2.out.end2 HX2.out HX1.out (Ne.symm HE1.out) HLE.out.2 HLE.out.1); dsimp only [Go.Proofs.YtomoemgoglghlaaGreatDoor.put6, Go.Proofs.YtomoemgoglghlaaGreatDoor.set6, c6] at hf1 hf2; obtain ⟨WA, hWA, hf3⟩ := hf1.split; obtain ⟨WB, hWB, hf4⟩ := hf2.split; have HF1 := Lib.hid hf3; have HF2 := Lib.hid hf4; have HWA := Lib.hid hWA; have HWB := Lib.hid hWB; clear hf1 hf2 hf3 hf4 hWA hWB; obtain ⟨d0, d1, d2, d3, d4, d5, d6, d7, d8, d9, d10, d11⟩ := cells6 HX1.out; obtain ⟨dd0, dd1, dd2, dd3, dd4, dd5, dd6, dd7, dd8, dd9, dd10, dd11⟩ := cells6 HX2.out
            refine hK.out _ _ ?_ (fun hHeld => ?_)
            · (try dsimp only); first | with_reducible exact HK.out _ hp4 | with_reducible exact HK.out _ hpc | with_reducible exact HK.out _ hpb | with_reducible exact HK.out _ hpa | go_keep
            clear hK K
            try simp only [Act.put, List.setIfInBounds_toArray, List.set_cons_zero, List.set_cons_succ, List.getElem_toArray, List.getElem_cons_zero, List.getElem_cons_succ]
            refine wpAnyH_ready (rs := [6]) (by kernel_rfl) (by simp) ?_
            refine AllReadyH.cons (by rfl) (fun K hK => ?_) ?_
            · go_simp
              refine hK.out _ _ ?_ (fun hHeld => ?_)
              · (try dsimp only); first | with_reducible exact HK.out _ hp4 | with_reducible exact HK.out _ hpc | with_reducible exact HK.out _ hpb | with_reducible exact HK.out _ hpa | go_keep
              clear hK K
              try simp only [Act.put, List.setIfInBounds_toArray, List.set_cons_zero, List.set_cons_succ, List.getElem_toArray, List.getElem_cons_zero, List.getElem_cons_succ]
              refine wpAnyH_ready (rs := [7]) (by kernel_rfl) (by simp) ?_
              refine AllReadyH.cons (by rfl) (fun K hK => ?_) ?_
              · go_simp
                refine hK.out _ _ ?_ (fun hHeld => ?_)
                · (try dsimp only); first | with_reducible exact HK.out _ hp4 | with_reducible exact HK.out _ hpc | with_reducible exact HK.out _ hpb | with_reducible exact HK.out _ hpa | go_keep
                clear hK K
                try simp only [Act.put, List.setIfInBounds_toArray, List.set_cons_zero, List.set_cons_succ, List.getElem_toArray, List.getElem_cons_zero, List.getElem_cons_succ]
                refine wpAnyH_done (by kernel_rfl) ?_ _
                refine OnlyEx.mk' ?_
                simp only [HWA.out, HWB.out]
                first
                  | (with_reducible refine ⟨_, ?_, HF1.out⟩; simp only [puts, Act.put, List.setIfInBounds_toArray, List.set_cons_zero, List.set_cons_succ]; done)
                  | (with_reducible refine ⟨_, ?_, HF2.out⟩; simp only [puts, Act.put, List.setIfInBounds_toArray, List.set_cons_zero, List.set_cons_succ]; done)
              exact AllReadyH.nil
            exact AllReadyH.nil
          exact AllReadyH.nil
        exact AllReadyH.nil
      exact AllReadyH.nil
    refine AllReadyH.cons (by rfl) (fun K hK => ?_) ?_
    · go_simp
      refine hK.out _ _ ?_ (fun hHeld => ?_)
      · (try dsimp only); first | with_reducible exact HK.out _ hp4 | with_reducible exact HK.out _ hpc | with_reducible exact HK.out _ hpb | with_reducible exact HK.out _ hpa | go_keep
      clear hK K
      try simp only [Act.put, List.setIfInBounds_toArray, List.set_cons_zero, List.set_cons_succ, List.getElem_toArray, List.getElem_cons_zero, List.getElem_cons_succ]
      refine wpAnyH_ready (rs := [1, 4]) (by kernel_rfl) (by simp) ?_
      refine AllReadyH.cons (by rfl) (fun K hK => ?_) ?_
      · go_simp
        (with_reducible refine HDB.out.mono ?_); rintro e wb ⟨m0, m1, m2, m3, m4, m5, m6, n0, n1, n2, n3, n4, n5, n6, rfl, HTB, HGB⟩; have hpb := HTB.out.below; obtain ⟨o0, o1, o2, o3, o4, o5, o6, o7, o8, o9, o10, o11, o12, o13, o14⟩ := HK.out _ hpb; obtain ⟨v0, v1, v2, v3, v4, v5, v6, v7, v8, v9, v10, v11⟩ := far3 HWL.out hpb; have HBB := Lib.hid (HZB.out.kept HGB.out)
        refine hK.out _ _ ?_ (fun hHeld => ?_)
        · (try dsimp only); first | with_reducible exact HK.out _ hp4 | with_reducible exact HK.out _ hpc | with_reducible exact HK.out _ hpb | with_reducible exact HK.out _ hpa | go_keep
        clear hK K
        try simp only [Act.put, List.setIfInBounds_toArray, List.set_cons_zero, List.set_cons_succ, List.getElem_toArray, List.getElem_cons_zero, List.getElem_cons_succ]
        refine wpAnyH_ready (rs := [3, 4]) (by kernel_rfl) (by simp) ?_
        refine AllReadyH.cons (by rfl) (fun K hK => ?_) ?_
        · go_simp
          (with_reducible refine (ofE_second HTB.out HVY.out.1 HVY.out.2 HZ.out.2.2.1 HZ.out.2.2.2 (Below.refl _ _)).mono ?_); rintro e w4' ⟨j0, j1, j2, j3, j4, j5, j6, l0, l1, l2, l3, l4, l5, l6, rfl, H2, HG4⟩; have hp4 := H2.out.one.below; obtain ⟨k0, k1, k2, k3, k4, k5, k6, k7, k8, k9, k10, k11, k12, k13, k14⟩ := HK.out _ hp4; obtain ⟨z0, z1, z2, z3, z4, z5, z6, z7, z8, z9, z10, z11⟩ := far3 HWL.out hp4; have HX1 := Lib.hid (HBB.out.kept HG4.out); have hf1 := (H2.out.end1a HX1.out HLE.out.1); have hf2 := (H2.out.end1b HX1.out HLE.out.1); dsimp only [Go.Proofs.YtomoemgoglghlaaGreatDoor.put6, Go.Proofs.YtomoemgoglghlaaGreatDoor.set6, c6] at hf1 hf2; obtain ⟨WA, hWA, hf3⟩ := hf1.split; obtain ⟨WB, hWB, hf4⟩ := hf2.split; have HF1 := Lib.hid hf3; have HF2 := Lib.hid hf4; have HWA := Lib.hid hWA; have HWB := Lib.hid hWB; clear hf1 hf2 hf3 hf4 hWA hWB; obtain ⟨d0, d1, d2, d3, d4, d5, d6, d7, d8, d9, d10, d11⟩ := cells6 HX1.out; obtain ⟨ne0, ne1, ne2⟩ := six_ne HX1.out
          refine hK.out _ _ ?_ (fun hHeld => ?_)
          · (try dsimp only); first | with_reducible exact HK.out _ hp4 | with_reducible exact HK.out _ hpc | with_reducible exact HK.out _ hpb | with_reducible exact HK.out _ hpa | go_keep
          clear hK K
          try simp only [Act.put, List.setIfInBounds_toArray, List.set_cons_zero, List.set_cons_succ, List.getElem_toArray, List.getElem_cons_zero, List.getElem_cons_succ]
          refine wpAnyH_ready (rs := [4]) (by kernel_rfl) (by simp) ?_
          refine AllReadyH.cons (by rfl) (fun K hK => ?_) ?_
          · go_simp
            refine hK.out _ _ ?_ (fun hHeld => ?_)
            · (try dsimp only); first | with_reducible exact HK.out _ hp4 | with_reducible exact HK.out _ hpc | with_reducible exact HK.out _ hpb | with_reducible exact HK.out _ hpa | go_keep
            clear hK K
            try simp only [Act.put, List.setIfInBounds_toArray, List.set_cons_zero, List.set_cons_succ, List.getElem_toArray, List.getElem_cons_zero, List.getElem_cons_succ]
            refine wpAnyH_ready (rs := [6]) (by kernel_rfl) (by simp) ?_
            refine AllReadyH.cons (by rfl) (fun K hK => ?_) ?_
            · go_simp
              refine hK.out _ _ ?_ (fun hHeld => ?_)
              · (try dsimp only); first | with_reducible exact HK.out _ hp4 | with_reducible exact HK.out _ hpc | with_reducible exact HK.out _ hpb | with_reducible exact HK.out _ hpa | go_keep
              clear hK K
              try simp only [Act.put, List.setIfInBounds_toArray, List.set_cons_zero, List.set_cons_succ, List.getElem_toArray, List.getElem_cons_zero, List.getElem_cons_succ]
              refine wpAnyH_ready (rs := [7]) (by kernel_rfl) (by simp) ?_
              refine AllReadyH.cons (by rfl) (fun K hK => ?_) ?_
              · go_simp
                refine hK.out _ _ ?_ (fun hHeld => ?_)
                · (try dsimp only); first | with_reducible exact HK.out _ hp4 | with_reducible exact HK.out _ hpc | with_reducible exact HK.out _ hpb | with_reducible exact HK.out _ hpa | go_keep
                clear hK K
                try simp only [Act.put, List.setIfInBounds_toArray, List.set_cons_zero, List.set_cons_succ, List.getElem_toArray, List.getElem_cons_zero, List.getElem_cons_succ]
                refine wpAnyH_done (by kernel_rfl) ?_ _
                refine OnlyEx.mk' ?_
                simp only [HWA.out, HWB.out]
                first
                  | (with_reducible refine ⟨_, ?_, HF1.out⟩; simp only [puts, Act.put, List.setIfInBounds_toArray, List.set_cons_zero, List.set_cons_succ]; done)
                  | (with_reducible refine ⟨_, ?_, HF2.out⟩; simp only [puts, Act.put, List.setIfInBounds_toArray, List.set_cons_zero, List.set_cons_succ]; done)
              exact AllReadyH.nil
            exact AllReadyH.nil
          exact AllReadyH.nil
        refine AllReadyH.cons (by rfl) (fun K hK => ?_) ?_
        · go_simp
          refine hK.out _ _ ?_ (fun hHeld => ?_)
          · (try dsimp only); first | with_reducible exact HK.out _ hp4 | with_reducible exact HK.out _ hpc | with_reducible exact HK.out _ hpb | with_reducible exact HK.out _ hpa | go_keep
          clear hK K
          try simp only [Act.put, List.setIfInBounds_toArray, List.set_cons_zero, List.set_cons_succ, List.getElem_toArray, List.getElem_cons_zero, List.getElem_cons_succ]
          refine wpAnyH_ready (rs := [3]) (by kernel_rfl) (by simp) ?_
          refine AllReadyH.cons (by rfl) (fun K hK => ?_) ?_
          · go_simp
            (with_reducible refine (ofE_second HTB.out HVY.out.1 HVY.out.2 HZ.out.2.2.1 HZ.out.2.2.2 ((Below.refl wb.heap.size wb).alloc (Nat.le_refl _) (.cells #[.bool false, .slice none 0 0, .slice none 0 0, .bool false, .slice none 0 0, .slice none 0 0] 73))).mono ?_); rintro e w4' ⟨j0, j1, j2, j3, j4, j5, j6, l0, l1, l2, l3, l4, l5, l6, rfl, H2, HG4⟩; have hp4 := H2.out.one.below; obtain ⟨k0, k1, k2, k3, k4, k5, k6, k7, k8, k9, k10, k11, k12, k13, k14⟩ := HK.out _ hp4; obtain ⟨z0, z1, z2, z3, z4, z5, z6, z7, z8, z9, z10, z11⟩ := far3 HWL.out hp4; have HX2 := Lib.hid (Six.kept (ty := 73) (heap_alloc_new wb _) HG4.out); have HX1 := Lib.hid ((HBB.out.kept ((Below.refl _ _).alloc (Nat.le_refl _) _)).kept HG4.out); have hgh : w4.heap.size ≠ wb.heap.size := Nat.ne_of_lt (Array.getElem?_eq_some_iff.1 HBB.out).1; have hhg := Ne.symm hgh; have hf1 := (H2.out.end2 HX1.out HX2.out hgh HLE.out.1 HTB.out.below.size); have hf2 := (H2.out.end2 HX2.out HX1.out hhg HTB.out.below.size HLE.out.1); dsimp only [Go.Proofs.YtomoemgoglghlaaGreatDoor.put6, Go.Proofs.YtomoemgoglghlaaGreatDoor.set6, c6] at hf1 hf2; obtain ⟨WA, hWA, hf3⟩ := hf1.split; obtain ⟨WB, hWB, hf4⟩ := hf2.split; have HF1 := Lib.hid hf3; have HF2 := Lib.hid hf4; have HWA := Lib.hid hWA; have HWB := Lib.hid hWB; clear hf1 hf2 hf3 hf4 hWA hWB; obtain ⟨d0, d1, d2, d3, d4, d5, d6, d7, d8, d9, d10, d11⟩ := cells6 HX1.out; obtain ⟨dd0, dd1, dd2, dd3, dd4, dd5, dd6, dd7, dd8, dd9, dd10, dd11⟩ := cells6 HX2.out
            refine hK.out _ _ ?_ (fun hHeld => ?_)
            · (try dsimp only); first | with_reducible exact HK.out _ hp4 | with_reducible exact HK.out _ hpc | with_reducible exact HK.out _ hpb | with_reducible exact HK.out _ hpa | go_keep
            clear hK K
            try simp only [Act.put, List.setIfInBounds_toArray, List.set_cons_zero, List.set_cons_succ, List.getElem_toArray, List.getElem_cons_zero, List.getElem_cons_succ]
            refine wpAnyH_ready (rs := [6]) (by kernel_rfl) (by simp) ?_
            refine AllReadyH.cons (by rfl) (fun K hK => ?_) ?_
            · go_simp
              refine hK.out _ _ ?_ (fun hHeld => ?_)
              · (try dsimp only); first | with_reducible exact HK.out _ hp4 | with_reducible exact HK.out _ hpc | with_reducible exact HK.out _ hpb | with_reducible exact HK.out _ hpa | go_keep
              clear hK K
              try simp only [Act.put, List.setIfInBounds_toArray, List.set_cons_zero, List.set_cons_succ, List.getElem_toArray, List.getElem_cons_zero, List.getElem_cons_succ]
              refine wpAnyH_ready (rs := [7]) (by kernel_rfl) (by simp) ?_
              refine AllReadyH.cons (by rfl) (fun K hK => ?_) ?_
              · go_simp
                refine hK.out _ _ ?_ (fun hHeld => ?_)
                · (try dsimp only); first | with_reducible exact HK.out _ hp4 | with_reducible exact HK.out _ hpc | with_reducible exact HK.out _ hpb | with_reducible exact HK.out _ hpa | go_keep
                clear hK K
                try simp only [Act.put, List.setIfInBounds_toArray, List.set_cons_zero, List.set_cons_succ, List.getElem_toArray, List.getElem_cons_zero, List.getElem_cons_succ]
                refine wpAnyH_done (by kernel_rfl) ?_ _
                refine OnlyEx.mk' ?_
                simp only [HWA.out, HWB.out]
                first
                  | (with_reducible refine ⟨_, ?_, HF1.out⟩; simp only [puts, Act.put, List.setIfInBounds_toArray, List.set_cons_zero, List.set_cons_succ]; done)
                  | (with_reducible refine ⟨_, ?_, HF2.out⟩; simp only [puts, Act.put, List.setIfInBounds_toArray, List.set_cons_zero, List.set_cons_succ]; done)
              exact AllReadyH.nil
            exact AllReadyH.nil
          exact AllReadyH.nil
        exact AllReadyH.nil
      refine AllReadyH.cons (by rfl) (fun K hK => ?_) ?_
      · go_simp
        refine hK.out _ _ ?_ (fun hHeld => ?_)
        · (try dsimp only); first | with_reducible exact HK.out _ hp4 | with_reducible exact HK.out _ hpc | with_reducible exact HK.out _ hpb | with_reducible exact HK.out _ hpa | go_keep
        clear hK K
        try simp only [Act.put, List.setIfInBounds_toArray, List.set_cons_zero, List.set_cons_succ, List.getElem_toArray, List.getElem_cons_zero, List.getElem_cons_succ]
        refine wpAnyH_ready (rs := [1]) (by kernel_rfl) (by simp) ?_
        refine AllReadyH.cons (by rfl) (fun K hK => ?_) ?_
        · go_simp
          (with_reducible refine HDC.out.mono ?_); rintro e wc ⟨m0, m1, m2, m3, m4, m5, m6, n0, n1, n2, n3, n4, n5, n6, rfl, HTC, HGC⟩; have hpc := HTC.out.below; obtain ⟨o0, o1, o2, o3, o4, o5, o6, o7, o8, o9, o10, o11, o12, o13, o14⟩ := HK.out _ hpc; obtain ⟨v0, v1, v2, v3, v4, v5, v6, v7, v8, v9, v10, v11⟩ := far3 HWL.out hpc; have HC1 := Lib.hid (HZC.out.1.kept HGC.out); have HC2 := Lib.hid (HZC.out.2.kept HGC.out)
          refine hK.out _ _ ?_ (fun hHeld => ?_)
          · (try dsimp only); first | with_reducible exact HK.out _ hp4 | with_reducible exact HK.out _ hpc | with_reducible exact HK.out _ hpb | with_reducible exact HK.out _ hpa | go_keep
          clear hK K
          try simp only [Act.put, List.setIfInBounds_toArray, List.set_cons_zero, List.set_cons_succ, List.getElem_toArray, List.getElem_cons_zero, List.getElem_cons_succ]
          refine wpAnyH_ready (rs := [3]) (by kernel_rfl) (by simp) ?_
          refine AllReadyH.cons (by rfl) (fun K hK => ?_) ?_
          · go_simp
            (with_reducible refine (ofE_second HTC.out HVY.out.1 HVY.out.2 HZ.out.2.2.1 HZ.out.2.2.2 (Below.refl _ _)).mono ?_); rintro e w4' ⟨j0, j1, j2, j3, j4, j5, j6, l0, l1, l2, l3, l4, l5, l6, rfl, H2, HG4⟩; have hp4 := H2.out.one.below; obtain ⟨k0, k1, k2, k3, k4, k5, k6, k7, k8, k9, k10, k11, k12, k13, k14⟩ := HK.out _ hp4; obtain ⟨z0, z1, z2, z3, z4, z5, z6, z7, z8, z9, z10, z11⟩ := far3 HWL.out hp4; have HX1 := Lib.hid (HC1.out.kept HG4.out); have HX2 := Lib.hid (HC2.out.kept HG4.out); have hf1 := (H2.out.end2 HX1.out HX2.out HE1.out HLE.out.1 HLE.out.2); have hf2 := (H2.out.end2 HX2.out HX1.out (Ne.symm HE1.out) HLE.out.2 HLE.out.1); dsimp only [Go.Proofs.YtomoemgoglghlaaGreatDoor.put6, Go.Proofs.YtomoemgoglghlaaGreatDoor.set6, c6] at hf1 hf2; obtain ⟨WA, hWA, hf3⟩ := hf1.split; obtain ⟨WB, hWB, hf4⟩ := hf2.split; have HF1 := Lib.hid hf3; have HF2 := Lib.hid hf4; have HWA := Lib.hid hWA; have HWB := Lib.hid hWB; clear hf1 hf2 hf3 hf4 hWA hWB; obtain ⟨d0, d1, d2, d3, d4, d5, d6, d7, d8, d9, d10, d11⟩ := cells6 HX1.out; obtain ⟨dd0, dd1, dd2, dd3, dd4, dd5, dd6, dd7, dd8, dd9, dd10, dd11⟩ := cells6 HX2.out
            refine hK.out _ _ ?_ (fun hHeld => ?_)
            · (try dsimp only); first | with_reducible exact HK.out _ hp4 | with_reducible exact HK.out _ hpc | with_reducible exact HK.out _ hpb | with_reducible exact HK.out _ hpa | go_keep
            clear hK K
            try simp only [Act.put, List.setIfInBounds_toArray, List.set_cons_zero, List.set_cons_succ, List.getElem_toArray, List.getElem_cons_zero, List.getElem_cons_succ]
            refine wpAnyH_ready (rs := [6]) (by kernel_rfl) (by simp) ?_
            refine AllReadyH.cons (by rfl) (fun K hK => ?_) ?_
            · go_simp
              refine hK.out _ _ ?_ (fun hHeld => ?_)
              · (try dsimp only); first | with_reducible exact HK.out _ hp4 | with_reducible exact HK.out _ hpc | with_reducible exact HK.out _ hpb | with_reducible exact HK.out _ hpa | go_keep
              clear hK K
              try simp only [Act.put, List.setIfInBounds_toArray, List.set_cons_zero, List.set_cons_succ, List.getElem_toArray, List.getElem_cons_zero, List.getElem_cons_succ]
              refine wpAnyH_ready (rs := [7]) (by kernel_rfl) (by simp) ?_
              refine AllReadyH.cons (by rfl) (fun K hK => ?_) ?_
              · go_simp
                refine hK.out _ _ ?_ (fun hHeld => ?_)
                · (try dsimp only); first | with_reducible exact HK.out _ hp4 | with_reducible exact HK.out _ hpc | with_reducible exact HK.out _ hpb | with_reducible exact HK.out _ hpa | go_keep
                clear hK K
                try simp only [Act.put, List.setIfInBounds_toArray, List.set_cons_zero, List.set_cons_succ, List.getElem_toArray, List.getElem_cons_zero, List.getElem_cons_succ]
                refine wpAnyH_done (by kernel_rfl) ?_ _
                refine OnlyEx.mk' ?_
                simp only [HWA.out, HWB.out]
                first
                  | (with_reducible refine ⟨_, ?_, HF1.out⟩; simp only [puts, Act.put, List.setIfInBounds_toArray, List.set_cons_zero, List.set_cons_succ]; done)
                  | (with_reducible refine ⟨_, ?_, HF2.out⟩; simp only [puts, Act.put, List.setIfInBounds_toArray, List.set_cons_zero, List.set_cons_succ]; done)
              exact AllReadyH.nil
            exact AllReadyH.nil
          exact AllReadyH.nil
        exact AllReadyH.nil
      exact AllReadyH.nil
    exact AllReadyH.nil
  case rest =>
    rintro ⟨gA, gC, ⟨⟨p0, ⟨p1, p2, p3⟩, ⟨p4, p5, p6⟩⟩, ⟨q0, ⟨q1, q2, q3⟩, ⟨q4, q5, q6⟩⟩⟩, ⟨⟨r0, ⟨r1, r2, r3⟩, ⟨r4, r5, r6⟩⟩, ⟨u0, ⟨u1, u2, u3⟩, ⟨u4, u5, u6⟩⟩⟩⟩ w5 hF
    obtain ⟨hx, hy, hT5⟩ := hF
    unfold LiesE c6 at hx hy
    dsimp only at hx hy hT5
    have HB5 := Lib.hid hT5.one.below
    have HKK : Hid (∀ W, Below w5.heap.size w5 W → (W.cell? ⟨w.heap.size, 0, none⟩ = some (.bool s1) ∧ W.cell? ⟨w.heap.size, 1, none⟩ = some (.slice a1 xs1.length c1) ∧ W.cell? ⟨w.heap.size, 2, none⟩ = some (.slice b1 ds1.length e1) ∧ W.cell? ⟨w.heap.size, 3, none⟩ = some (.bool t1) ∧ W.cell? ⟨w.heap.size, 4, none⟩ = some (.slice f1 ys1.length g1) ∧ W.cell? ⟨w.heap.size, 5, none⟩ = some (.slice h1 es1.length i1) ∧ W.cell? ⟨w.heap.size + 1, 0, none⟩ = some (.bool s2) ∧ W.cell? ⟨w.heap.size + 1, 1, none⟩ = some (.slice a2 xs2.length c2) ∧ W.cell? ⟨w.heap.size + 1, 2, none⟩ = some (.slice b2 ds2.length e2) ∧ W.cell? ⟨w.heap.size + 1, 3, none⟩ = some (.bool t2) ∧ W.cell? ⟨w.heap.size + 1, 4, none⟩ = some (.slice f2 ys2.length g2) ∧ W.cell? ⟨w.heap.size + 1, 5, none⟩ = some (.slice h2 es2.length i2) ∧ W.cell? ⟨w.heap.size + 1 + 1, 0, none⟩ = some (.bool s3) ∧ W.cell? ⟨w.heap.size + 1 + 1, 1, none⟩ = some (.slice a3 xs3.length c3) ∧ W.cell? ⟨w.heap.size + 1 + 1, 2, none⟩ = some (.slice b3 ds3.length e3) ∧ W.cell? ⟨gA, 0, none⟩ = some (.bool p0) ∧ W.cell? ⟨gA, 1, none⟩ = some (.slice p1 p2 p3) ∧ W.cell? ⟨gA, 2, none⟩ = some (.slice p4 p5 p6) ∧ W.cell? ⟨gA, 3, none⟩ = some (.bool q0) ∧ W.cell? ⟨gA, 4, none⟩ = some (.slice q1 q2 q3) ∧ W.cell? ⟨gA, 5, none⟩ = some (.slice q4 q5 q6) ∧ W.cell? ⟨gC, 0, none⟩ = some (.bool r0) ∧ W.cell? ⟨gC, 1, none⟩ = some (.slice r1 r2 r3) ∧ W.cell? ⟨gC, 2, none⟩ = some (.slice r4 r5 r6) ∧ W.cell? ⟨gC, 3, none⟩ = some (.bool u0) ∧ W.cell? ⟨gC, 4, none⟩ = some (.slice u1 u2 u3) ∧ W.cell? ⟨gC, 5, none⟩ = some (.slice u4 u5 u6))) := Lib.hid fun W h => by
      obtain ⟨k0, k1, k2, k3, k4, k5, k6, k7, k8, k9, k10, k11, k12, k13, k14⟩ := HK.out _ (HB5.out.trans (h.mono HB5.out.size))
      obtain ⟨mm0, mm1, mm2, mm3, mm4, mm5, _⟩ := cells6 (stay hx h)
      obtain ⟨nn0, nn1, nn2, nn3, nn4, nn5, _⟩ := cells6 (stay hy h)
      exact ⟨k0, k1, k2, k3, k4, k5, k6, k7, k8, k9, k10, k11, k12, k13, k14, mm0, mm1, mm2, mm3, mm4, mm5, nn0, nn1, nn2, nn3, nn4, nn5⟩
    have HBL := Lib.hid (HB.out.trans (HB5.out.mono HB.out.size))
    have HD : Hid (∀ W, Below w5.heap.size w5 W → VD q (p0, (p1, p2, p3), (p4, p5, p6)) W ∧ VD r (q0, (q1, q2, q3), (q4, q5, q6)) W ∧ VD q' (r0, (r1, r2, r3), (r4, r5, r6)) W ∧ VD r' (u0, (u1, u2, u3), (u4, u5, u6)) W) := Lib.hid fun W h => ⟨hT5.one.vx.kept h, hT5.one.ux.kept h, hT5.vy.kept h, hT5.uy.kept h⟩
    have HOP : Hid (∀ W, Below w5.heap.size w5 W → VQ q (s1, (a1, xs1.length, c1), (b1, ds1.length, e1)) W ∧ VQ r (t1, (f1, ys1.length, g1), (h1, es1.length, i1)) W ∧ VQ q' (s2, (a2, xs2.length, c2), (b2, ds2.length, e2)) W ∧ VQ r' (t2, (f2, ys2.length, g2), (h2, es2.length, i2)) W ∧ VQ kq (s3, (a3, xs3.length, c3), (b3, ds3.length, e3)) W ∧ Tab W) := Lib.hid fun W h => by
      have hb := HB5.out.trans (h.mono HB5.out.size)
      exact ⟨HVX.out.1.kept hb, HVX.out.2.kept hb, HVY.out.1.kept hb, HVY.out.2.kept hb, HVK.out.kept hb, HT.out.kept hb⟩
    obtain ⟨zq, zr, zq', zr', zk⟩ := HZ6.out
    have a1q := szQ_add q q'
    have a2q := szQ_add r r'
    have a3q := szQ_sub q q'
    have a4q := szQ_sub r r'
    have a5q := szQ_mul kq q
    have a6q := szQ_mul kq r
    have a7q := szQ_neg q'
    have a8q := szQ_neg r'
    have HAD : Hid (∀ W, Below w5.heap.size w5 W → _) := Lib.hid fun W h => AddDD (HD.out W h).1 (HD.out W h).2.1 (HD.out W h).2.2.1 (HD.out W h).2.2.2 (by omega) (by omega) (by omega) (by omega) h
    have HNE : Hid (∀ W, Below w5.heap.size w5 W → _) := Lib.hid fun W h => NegDD (HD.out W h).2.2.1 (HD.out W h).2.2.2 (by omega) (by omega) h
    have HSB : Hid (∀ W z0 z1 z2 z3 z4 z5 z6 y0 y1 y2 y3 y4 y5 y6, Below w5.heap.size w5 W → VD (-q') (z0, (z1, z2, z3), (z4, z5, z6)) W → VD (-r') (y0, (y1, y2, y3), (y4, y5, y6)) W → Calls Tryz.prog 58 #[.agg #[.bool p0, .slice p1 p2 p3, .slice p4 p5 p6, .bool q0, .slice q1 q2 q3, .slice q4 q5 q6], .agg #[.bool z0, .slice z1 z2 z3, .slice z4 z5 z6, .bool y0, .slice y1 y2 y3, .slice y4 y5 y6]] W (GotDD w5 (q - q') (r - r'))) := Lib.hid (fun W z0 z1 z2 z3 z4 z5 z6 y0 y1 y2 y3 y4 y5 y6 h hz hy => by
      rw [Rat.sub_eq_add_neg, Rat.sub_eq_add_neg]
      exact AddDD (HD.out W h).1 (HD.out W h).2.1 hz hy (by omega) (by omega) (by omega) (by omega) h)
    have HOK : Hid (∀ W, Below w5.heap.size w5 W → _) := Lib.hid fun W h => got_of (HOP.out W h).2.2.2.2.1 (by omega) h
    have HSC : Hid (∀ W z0 z1 z2 z3 z4 z5 z6, Below w5.heap.size w5 W → VD kq (z0, (z1, z2, z3), (z4, z5, z6)) W → Calls Tryz.prog 64 #[.agg #[.bool z0, .slice z1 z2 z3, .slice z4 z5 z6], .agg #[.bool p0, .slice p1 p2 p3, .slice p4 p5 p6, .bool q0, .slice q1 q2 q3, .slice q4 q5 q6]] W (GotDD w5 (kq * q) (kq * r))) := Lib.hid fun W z0 z1 z2 z3 z4 z5 z6 h hz => ScaleDD hz (HD.out W h).1 (HD.out W h).2.1 (by omega) (by omega) (by omega) h
    have HT1 : Hid (∀ W z0 z1 z2 z3 z4 z5 z6 y0 y1 y2 y3 y4 y5 y6, Below w5.heap.size w5 W → VD (q + q') (z0, (z1, z2, z3), (z4, z5, z6)) W → VD (r + r') (y0, (y1, y2, y3), (y4, y5, y6)) W → Calls Tryz.prog 55 #[.int .i64 n, .func (.func 56) #[] #[.pointer (some ⟨w.heap.size, 0, none⟩), .pointer (some ⟨w.heap.size + 1, 0, none⟩)], .agg #[.bool z0, .slice z1 z2 z3, .slice z4 z5 z6, .bool y0, .slice y1 y2 y3, .slice y4 y5 y6]] W (GotV w5 (.bool true))) := Lib.hid (fun W z0 z1 z2 z3 z4 z5 z6 y0 y1 y2 y3 y4 y5 y6 h hz hy => (told03_1 HN.out hz hy (by omega) (by omega) fun m W' b _ hB hbe _ => by
      have hb := h.trans (hB.mono h.size)
      obtain ⟨ox, ou, oy, ov, ok, oT⟩ := HOP.out W' hb
      obtain ⟨k0, k1, k2, k3, k4, k5, k6, k7, k8, k9, k10, k11, k12, k13, k14, _⟩ := HKK.out W' hb
      exact dclos1 hbe oT ox (by omega) ou (by omega) oy (by omega) ov (by omega) k0 k1 k2 k3 k4 k5 k6 k7 k8 k9 k10 k11).mono fun e W' hg => ⟨hg.1, Lib.hid (h.trans (hg.2.mono h.size))⟩)
    have HT2 : Hid (∀ W z0 z1 z2 z3 z4 z5 z6 y0 y1 y2 y3 y4 y5 y6, Below w5.heap.size w5 W → VD (q - q') (z0, (z1, z2, z3), (z4, z5, z6)) W → VD (r - r') (y0, (y1, y2, y3), (y4, y5, y6)) W → Calls Tryz.prog 55 #[.int .i64 n, .func (.func 59) #[] #[.pointer (some ⟨w.heap.size, 0, none⟩), .pointer (some ⟨w.heap.size + 1, 0, none⟩)], .agg #[.bool z0, .slice z1 z2 z3, .slice z4 z5 z6, .bool y0, .slice y1 y2 y3, .slice y4 y5 y6]] W (GotV w5 (.bool true))) := Lib.hid (fun W z0 z1 z2 z3 z4 z5 z6 y0 y1 y2 y3 y4 y5 y6 h hz hy => (told03_2 HN.out hz hy (by omega) (by omega) fun m W' b _ hB hbe _ => by
      have hb := h.trans (hB.mono h.size)
      obtain ⟨ox, ou, oy, ov, ok, oT⟩ := HOP.out W' hb
      obtain ⟨k0, k1, k2, k3, k4, k5, k6, k7, k8, k9, k10, k11, k12, k13, k14, _⟩ := HKK.out W' hb
      exact dclos2 hbe oT ox (by omega) ou (by omega) oy (by omega) ov (by omega) k0 k1 k2 k3 k4 k5 k6 k7 k8 k9 k10 k11).mono fun e W' hg => ⟨hg.1, Lib.hid (h.trans (hg.2.mono h.size))⟩)
    have HT3 : Hid (∀ W z0 z1 z2 z3 z4 z5 z6 y0 y1 y2 y3 y4 y5 y6, Below w5.heap.size w5 W → VD (kq * q) (z0, (z1, z2, z3), (z4, z5, z6)) W → VD (kq * r) (y0, (y1, y2, y3), (y4, y5, y6)) W → Calls Tryz.prog 55 #[.int .i64 n, .func (.func 62) #[] #[.pointer (some ⟨w.heap.size + 1 + 1, 0, none⟩), .pointer (some ⟨w.heap.size, 0, none⟩)], .agg #[.bool z0, .slice z1 z2 z3, .slice z4 z5 z6, .bool y0, .slice y1 y2 y3, .slice y4 y5 y6]] W (GotV w5 (.bool true))) := Lib.hid (fun W z0 z1 z2 z3 z4 z5 z6 y0 y1 y2 y3 y4 y5 y6 h hz hy => (told03_3 HN.out hz hy (by omega) (by omega) fun m W' b _ hB hbe _ => by
      have hb := h.trans (hB.mono h.size)
      obtain ⟨ox, ou, oy, ov, ok, oT⟩ := HOP.out W' hb
      obtain ⟨k0, k1, k2, k3, k4, k5, k6, k7, k8, k9, k10, k11, k12, k13, k14, _⟩ := HKK.out W' hb
      exact dclos3 hbe oT ok (by omega) ox (by omega) ou (by omega) k12 k13 k14 k0 k1 k2 k3 k4 k5).mono fun e W' hg => ⟨hg.1, Lib.hid (h.trans (hg.2.mono h.size))⟩)
    obtain ⟨c, hc⟩ : ∃ c, cmpDQ q r q' r' = c := ⟨_, rfl⟩
    obtain ⟨tx, htx⟩ : ∃ v, textDQ q r = v := ⟨_, rfl⟩
    have HCP : Hid (∀ W, Below w5.heap.size w5 W → _) := Lib.hid fun W h => CmpPP (HOP.out W h).1 (HOP.out W h).2.1 (HOP.out W h).2.2.1 (HOP.out W h).2.2.2.1 (by omega) (by omega) (by omega) (by omega) h hc
    have HCR : Hid (∀ W, Below w5.heap.size w5 W → _) := Lib.hid fun W h => CmpDD (HD.out W h).1 (HD.out W h).2.1 (HD.out W h).2.2.1 (HD.out W h).2.2.2 (by omega) (by omega) (by omega) (by omega) h hc
    have HTX : Hid (∀ W, Below w5.heap.size w5 W → _) := Lib.hid fun W h => TextPP (HOP.out W h).1 (HOP.out W h).2.1 (by omega) (by omega) h htx
    have HTR : Hid (∀ W, Below w5.heap.size w5 W → _) := Lib.hid fun W h => TextDD (HD.out W h).1 (HD.out W h).2.1 (by omega) (by omega) h htx
    have HDO : Hid (∀ W, Below w5.heap.size w5 W → _) := Lib.hid fun W h => DelOf (HOP.out W h).2.2.2.2.1 (by omega) h
    have HSM : Hid (∀ W z0 z1 z2 z3 z4 z5 z6 y0 y1 y2 y3 y4 y5 y6, Below w5.heap.size w5 W → VQ (kq) (z0, (z1, z2, z3), (z4, z5, z6)) W → VQ (0) (y0, (y1, y2, y3), (y4, y5, y6)) W → Calls Tryz.prog 69 #[.agg #[.bool z0, .slice z1 z2 z3, .slice z4 z5 z6, .bool y0, .slice y1 y2 y3, .slice y4 y5 y6], .agg #[.bool s3, .slice a3 xs3.length c3, .slice b3 ds3.length e3, .bool false, .slice none 0 0, .slice none 0 0]] W (GotV w5 (.bool true))) := Lib.hid (fun W z0 z1 z2 z3 z4 z5 z6 y0 y1 y2 y3 y4 y5 y6 h hz hy => SameDD hz hy (HOP.out W h).2.2.2.2.1 (vq_z W) (by omega) (by rw [szQ_zero]; omega) (by omega) (by rw [szQ_zero]; omega) h rfl rfl)
    have G0 := Lib.hid (below_drew w5)
    obtain ⟨k0, k1, k2, k3, k4, k5, k6, k7, k8, k9, k10, k11, k12, k13, k14, mm0, mm1, mm2, mm3, mm4, mm5, nn0, nn1, nn2, nn3, nn4, nn5⟩ := HKK.out w5 (Below.refl _ _)
    clear hx hy hT5 hc htx a1q a2q a3q a4q a5q a6q a7q a8q zq zr zq' zr' zk HDA HDB HDC HZB HZC HK HE1 HB HB5 HLE HVX HVY HVK HZ HZ6 HD HOP HWL HT HN z0 z1 z2 z3 z4 z5 z6 z7 z8 z9 z10 z11
    simp only [puts, Act.put, List.setIfInBounds_toArray, List.set_cons_zero, List.set_cons_succ]
    go_wp2_with fail
    refine wp_region_held_drew (S := (fun w' => w'.cell? ⟨w.heap.size, 0, none⟩ = some (.bool s1) ∧ w'.cell? ⟨w.heap.size, 1, none⟩ = some (.slice a1 xs1.length c1) ∧ w'.cell? ⟨w.heap.size, 2, none⟩ = some (.slice b1 ds1.length e1) ∧ w'.cell? ⟨w.heap.size, 3, none⟩ = some (.bool t1) ∧ w'.cell? ⟨w.heap.size, 4, none⟩ = some (.slice f1 ys1.length g1) ∧ w'.cell? ⟨w.heap.size, 5, none⟩ = some (.slice h1 es1.length i1) ∧ w'.cell? ⟨w.heap.size + 1, 0, none⟩ = some (.bool s2) ∧ w'.cell? ⟨w.heap.size + 1, 1, none⟩ = some (.slice a2 xs2.length c2) ∧ w'.cell? ⟨w.heap.size + 1, 2, none⟩ = some (.slice b2 ds2.length e2) ∧ w'.cell? ⟨w.heap.size + 1, 3, none⟩ = some (.bool t2) ∧ w'.cell? ⟨w.heap.size + 1, 4, none⟩ = some (.slice f2 ys2.length g2) ∧ w'.cell? ⟨w.heap.size + 1, 5, none⟩ = some (.slice h2 es2.length i2) ∧ w'.cell? ⟨w.heap.size + 1 + 1, 0, none⟩ = some (.bool s3) ∧ w'.cell? ⟨w.heap.size + 1 + 1, 1, none⟩ = some (.slice a3 xs3.length c3) ∧ w'.cell? ⟨w.heap.size + 1 + 1, 2, none⟩ = some (.slice b3 ds3.length e3) ∧ w'.cell? ⟨gA, 0, none⟩ = some (.bool p0) ∧ w'.cell? ⟨gA, 1, none⟩ = some (.slice p1 p2 p3) ∧ w'.cell? ⟨gA, 2, none⟩ = some (.slice p4 p5 p6) ∧ w'.cell? ⟨gA, 3, none⟩ = some (.bool q0) ∧ w'.cell? ⟨gA, 4, none⟩ = some (.slice q1 q2 q3) ∧ w'.cell? ⟨gA, 5, none⟩ = some (.slice q4 q5 q6) ∧ w'.cell? ⟨gC, 0, none⟩ = some (.bool r0) ∧ w'.cell? ⟨gC, 1, none⟩ = some (.slice r1 r2 r3) ∧ w'.cell? ⟨gC, 2, none⟩ = some (.slice r4 r5 r6) ∧ w'.cell? ⟨gC, 3, none⟩ = some (.bool u0) ∧ w'.cell? ⟨gC, 4, none⟩ = some (.slice u1 u2 u3) ∧ w'.cell? ⟨gC, 5, none⟩ = some (.slice u4 u5 u6))) (by kernel_rfl) ?_ (fun hHeld => ?_)
    · exact HKK.out _ G0.out
    refine wpAnyH_take (i := 0) (v := ?_) (by rfl) (by kernel_rfl) (by kernel_rfl) (by kernel_rfl) (by exact fun _ _ _ h => h) (Or.inl ⟨by rfl, ?_⟩) hHeld ?_
    rotate_left 1
    · intro w' hSw
      go_simp
      try with_reducible rfl
    try simp only [Act.put, List.setIfInBounds_toArray, List.set_cons_zero, List.set_cons_succ, List.getElem_toArray, List.getElem_cons_zero, List.getElem_cons_succ]
    refine wpAnyH_take (i := 1) (v := ?_) (by rfl) (by kernel_rfl) (by kernel_rfl) (by kernel_rfl) (by exact fun _ _ _ h => h) (Or.inl ⟨by rfl, ?_⟩) hHeld ?_
    rotate_left 1
    · intro w' hSw
      go_simp
      try with_reducible rfl
    try simp only [Act.put, List.setIfInBounds_toArray, List.set_cons_zero, List.set_cons_succ, List.getElem_toArray, List.getElem_cons_zero, List.getElem_cons_succ]
    refine wpAnyH_take (i := 2) (v := ?_) (by rfl) (by kernel_rfl) (by kernel_rfl) (by kernel_rfl) (by exact fun _ _ _ h => h) (Or.inl ⟨by rfl, ?_⟩) hHeld ?_
    rotate_left 1
    · intro w' hSw
      go_simp
      try with_reducible rfl
    try simp only [Act.put, List.setIfInBounds_toArray, List.set_cons_zero, List.set_cons_succ, List.getElem_toArray, List.getElem_cons_zero, List.getElem_cons_succ]
    refine wpAnyH_take (i := 3) (v := ?_) (by rfl) (by kernel_rfl) (by kernel_rfl) (by kernel_rfl) (by exact fun _ _ _ h => h) (Or.inl ⟨by rfl, ?_⟩) hHeld ?_
    rotate_left 1
    · intro w' hSw
      go_simp
      try with_reducible rfl
    try simp only [Act.put, List.setIfInBounds_toArray, List.set_cons_zero, List.set_cons_succ, List.getElem_toArray, List.getElem_cons_zero, List.getElem_cons_succ]
    refine wpAnyH_ready (rs := [4]) (by kernel_rfl) (by simp) ?_
    refine AllReadyH.cons (by rfl) (fun K hK => ?_) AllReadyH.nil
    go_simp
    with_reducible refine (HAD.out _ G0.out).mono ?_
    rintro e v1 ⟨x1_0, x1_1, x1_2, x1_3, x1_4, x1_5, x1_6, y1_0, y1_1, y1_2, y1_3, y1_4, y1_5, y1_6, rfl, HC1, HV1, HU1⟩
    clear hHeld
    refine hK.out _ _ ?_ (fun hHeld => ?_)
    · exact HKK.out _ HC1.out
    clear hK K
    try simp only [Act.put, List.setIfInBounds_toArray, List.set_cons_zero, List.set_cons_succ, List.getElem_toArray, List.getElem_cons_zero, List.getElem_cons_succ]
    refine wpAnyH_ready (rs := [5]) (by kernel_rfl) (by simp) ?_
    refine AllReadyH.cons (by rfl) (fun K hK => ?_) AllReadyH.nil
    go_simp
    with_reducible refine (HT1.out _ _ _ _ _ _ _ _ _ _ _ _ _ _ _ HC1.out HV1.out HU1.out).mono ?_
    rintro e v2 ⟨rfl, HC2⟩
    clear hHeld
    refine hK.out _ _ ?_ (fun hHeld => ?_)
    · exact HKK.out _ HC2.out
    clear hK K
    try simp only [Act.put, List.setIfInBounds_toArray, List.set_cons_zero, List.set_cons_succ, List.getElem_toArray, List.getElem_cons_zero, List.getElem_cons_succ]
    refine wpAnyH_take (i := 6) (v := ?_) (by rfl) (by kernel_rfl) (by kernel_rfl) (by kernel_rfl) (by exact fun _ _ _ h => h) (Or.inl ⟨by rfl, ?_⟩) hHeld ?_
    rotate_left 1
    · intro w' hSw
      go_simp
      try with_reducible rfl
    try simp only [Act.put, List.setIfInBounds_toArray, List.set_cons_zero, List.set_cons_succ, List.getElem_toArray, List.getElem_cons_zero, List.getElem_cons_succ]
    refine wpAnyH_take (i := 7) (v := ?_) (by rfl) (by kernel_rfl) (by kernel_rfl) (by kernel_rfl) (by exact fun _ _ _ h => h) (Or.inl ⟨by rfl, ?_⟩) hHeld ?_
    rotate_left 1
    · intro w' hSw
      go_simp
      try with_reducible rfl
    try simp only [Act.put, List.setIfInBounds_toArray, List.set_cons_zero, List.set_cons_succ, List.getElem_toArray, List.getElem_cons_zero, List.getElem_cons_succ]
    refine wpAnyH_take (i := 8) (v := ?_) (by rfl) (by kernel_rfl) (by kernel_rfl) (by kernel_rfl) (by exact fun _ _ _ h => h) (Or.inl ⟨by rfl, ?_⟩) hHeld ?_
    rotate_left 1
    · intro w' hSw
      go_simp
      try with_reducible rfl
    try simp only [Act.put, List.setIfInBounds_toArray, List.set_cons_zero, List.set_cons_succ, List.getElem_toArray, List.getElem_cons_zero, List.getElem_cons_succ]
    refine wpAnyH_take (i := 9) (v := ?_) (by rfl) (by kernel_rfl) (by kernel_rfl) (by kernel_rfl) (by exact fun _ _ _ h => h) (Or.inl ⟨by rfl, ?_⟩) hHeld ?_
    rotate_left 1
    · intro w' hSw
      go_simp
      try with_reducible rfl
    try simp only [Act.put, List.setIfInBounds_toArray, List.set_cons_zero, List.set_cons_succ, List.getElem_toArray, List.getElem_cons_zero, List.getElem_cons_succ]
    refine wpAnyH_take (i := 10) (v := ?_) (by rfl) (by kernel_rfl) (by kernel_rfl) (by kernel_rfl) (by exact fun _ _ _ h => h) (Or.inl ⟨by rfl, ?_⟩) hHeld ?_
    rotate_left 1
    · intro w' hSw
      go_simp
      try with_reducible rfl
    try simp only [Act.put, List.setIfInBounds_toArray, List.set_cons_zero, List.set_cons_succ, List.getElem_toArray, List.getElem_cons_zero, List.getElem_cons_succ]
    refine wpAnyH_ready (rs := [11]) (by kernel_rfl) (by simp) ?_
    refine AllReadyH.cons (by rfl) (fun K hK => ?_) AllReadyH.nil
    go_simp
    with_reducible refine (HNE.out _ HC2.out).mono ?_
    rintro e v3 ⟨x3_0, x3_1, x3_2, x3_3, x3_4, x3_5, x3_6, y3_0, y3_1, y3_2, y3_3, y3_4, y3_5, y3_6, rfl, HC3, HV3, HU3⟩
    clear hHeld
    refine hK.out _ _ ?_ (fun hHeld => ?_)
    · exact HKK.out _ HC3.out
    clear hK K
    try simp only [Act.put, List.setIfInBounds_toArray, List.set_cons_zero, List.set_cons_succ, List.getElem_toArray, List.getElem_cons_zero, List.getElem_cons_succ]
    refine wpAnyH_ready (rs := [12]) (by kernel_rfl) (by simp) ?_
    refine AllReadyH.cons (by rfl) (fun K hK => ?_) AllReadyH.nil
    go_simp
    with_reducible refine (HSB.out _ _ _ _ _ _ _ _ _ _ _ _ _ _ _ HC3.out HV3.out HU3.out).mono ?_
    rintro e v4 ⟨x4_0, x4_1, x4_2, x4_3, x4_4, x4_5, x4_6, y4_0, y4_1, y4_2, y4_3, y4_4, y4_5, y4_6, rfl, HC4, HV4, HU4⟩
    clear hHeld
    refine hK.out _ _ ?_ (fun hHeld => ?_)
    · exact HKK.out _ HC4.out
    clear hK K
    try simp only [Act.put, List.setIfInBounds_toArray, List.set_cons_zero, List.set_cons_succ, List.getElem_toArray, List.getElem_cons_zero, List.getElem_cons_succ]
    refine wpAnyH_ready (rs := [13]) (by kernel_rfl) (by simp) ?_
    refine AllReadyH.cons (by rfl) (fun K hK => ?_) AllReadyH.nil
    go_simp
    with_reducible refine (HT2.out _ _ _ _ _ _ _ _ _ _ _ _ _ _ _ HC4.out HV4.out HU4.out).mono ?_
    rintro e v5 ⟨rfl, HC5⟩
    clear hHeld
    refine hK.out _ _ ?_ (fun hHeld => ?_)
    · exact HKK.out _ HC5.out
    clear hK K
    try simp only [Act.put, List.setIfInBounds_toArray, List.set_cons_zero, List.set_cons_succ, List.getElem_toArray, List.getElem_cons_zero, List.getElem_cons_succ]
    refine wpAnyH_take (i := 14) (v := ?_) (by rfl) (by kernel_rfl) (by kernel_rfl) (by kernel_rfl) (by exact fun _ _ _ h => h) (Or.inl ⟨by rfl, ?_⟩) hHeld ?_
    rotate_left 1
    · intro w' hSw
      go_simp
      try with_reducible rfl
    try simp only [Act.put, List.setIfInBounds_toArray, List.set_cons_zero, List.set_cons_succ, List.getElem_toArray, List.getElem_cons_zero, List.getElem_cons_succ]
    refine wpAnyH_take (i := 15) (v := ?_) (by rfl) (by kernel_rfl) (by kernel_rfl) (by kernel_rfl) (by exact fun _ _ _ h => h) (Or.inl ⟨by rfl, ?_⟩) hHeld ?_
    rotate_left 1
    · intro w' hSw
      go_simp
      try with_reducible rfl
    try simp only [Act.put, List.setIfInBounds_toArray, List.set_cons_zero, List.set_cons_succ, List.getElem_toArray, List.getElem_cons_zero, List.getElem_cons_succ]
    refine wpAnyH_take (i := 16) (v := ?_) (by rfl) (by kernel_rfl) (by kernel_rfl) (by kernel_rfl) (by exact fun _ _ _ h => h) (Or.inl ⟨by rfl, ?_⟩) hHeld ?_
    rotate_left 1
    · intro w' hSw
      go_simp
      try with_reducible rfl
    try simp only [Act.put, List.setIfInBounds_toArray, List.set_cons_zero, List.set_cons_succ, List.getElem_toArray, List.getElem_cons_zero, List.getElem_cons_succ]
    refine wpAnyH_take (i := 17) (v := ?_) (by rfl) (by kernel_rfl) (by kernel_rfl) (by kernel_rfl) (by exact fun _ _ _ h => h) (Or.inl ⟨by rfl, ?_⟩) hHeld ?_
    rotate_left 1
    · intro w' hSw
      go_simp
      try with_reducible rfl
    try simp only [Act.put, List.setIfInBounds_toArray, List.set_cons_zero, List.set_cons_succ, List.getElem_toArray, List.getElem_cons_zero, List.getElem_cons_succ]
    refine wpAnyH_take (i := 18) (v := ?_) (by rfl) (by kernel_rfl) (by kernel_rfl) (by kernel_rfl) (by exact fun _ _ _ h => h) (Or.inl ⟨by rfl, ?_⟩) hHeld ?_
    rotate_left 1
    · intro w' hSw
      go_simp
      try with_reducible rfl
    try simp only [Act.put, List.setIfInBounds_toArray, List.set_cons_zero, List.set_cons_succ, List.getElem_toArray, List.getElem_cons_zero, List.getElem_cons_succ]
    refine wpAnyH_take (i := 20) (v := ?_) (by rfl) (by kernel_rfl) (by kernel_rfl) (by kernel_rfl) (by exact fun _ _ _ h => h) (Or.inl ⟨by rfl, ?_⟩) hHeld ?_
    rotate_left 1
    · intro w' hSw
      go_simp
      try with_reducible rfl
    try simp only [Act.put, List.setIfInBounds_toArray, List.set_cons_zero, List.set_cons_succ, List.getElem_toArray, List.getElem_cons_zero, List.getElem_cons_succ]
    refine wpAnyH_ready (rs := [19]) (by kernel_rfl) (by simp) ?_
    refine AllReadyH.cons (by rfl) (fun K hK => ?_) AllReadyH.nil
    go_simp
    with_reducible refine (HOK.out _ HC5.out).mono ?_
    rintro e v6 ⟨x6_0, x6_1, x6_2, x6_3, x6_4, x6_5, x6_6, rfl, HC6, HV6⟩
    clear hHeld
    refine hK.out _ _ ?_ (fun hHeld => ?_)
    · exact HKK.out _ HC6.out
    clear hK K
    try simp only [Act.put, List.setIfInBounds_toArray, List.set_cons_zero, List.set_cons_succ, List.getElem_toArray, List.getElem_cons_zero, List.getElem_cons_succ]
    refine wpAnyH_ready (rs := [21]) (by kernel_rfl) (by simp) ?_
    refine AllReadyH.cons (by rfl) (fun K hK => ?_) AllReadyH.nil
    go_simp
    with_reducible refine (HSC.out _ _ _ _ _ _ _ _ HC6.out HV6.out).mono ?_
    rintro e v7 ⟨x7_0, x7_1, x7_2, x7_3, x7_4, x7_5, x7_6, y7_0, y7_1, y7_2, y7_3, y7_4, y7_5, y7_6, rfl, HC7, HV7, HU7⟩
    clear hHeld
    refine hK.out _ _ ?_ (fun hHeld => ?_)
    · exact HKK.out _ HC7.out
    clear hK K
    try simp only [Act.put, List.setIfInBounds_toArray, List.set_cons_zero, List.set_cons_succ, List.getElem_toArray, List.getElem_cons_zero, List.getElem_cons_succ]
    refine wpAnyH_ready (rs := [22]) (by kernel_rfl) (by simp) ?_
    refine AllReadyH.cons (by rfl) (fun K hK => ?_) AllReadyH.nil
    go_simp
    with_reducible refine (HT3.out _ _ _ _ _ _ _ _ _ _ _ _ _ _ _ HC7.out HV7.out HU7.out).mono ?_
    rintro e v8 ⟨rfl, HC8⟩
    clear hHeld
    refine hK.out _ _ ?_ (fun hHeld => ?_)
    · exact HKK.out _ HC8.out
    clear hK K
    try simp only [Act.put, List.setIfInBounds_toArray, List.set_cons_zero, List.set_cons_succ, List.getElem_toArray, List.getElem_cons_zero, List.getElem_cons_succ]
    refine wpAnyH_take (i := 23) (v := ?_) (by rfl) (by kernel_rfl) (by kernel_rfl) (by kernel_rfl) (by exact fun _ _ _ h => h) (Or.inl ⟨by rfl, ?_⟩) hHeld ?_
    rotate_left 1
    · intro w' hSw
      go_simp
      try with_reducible rfl
    try simp only [Act.put, List.setIfInBounds_toArray, List.set_cons_zero, List.set_cons_succ, List.getElem_toArray, List.getElem_cons_zero, List.getElem_cons_succ]
    refine wpAnyH_take (i := 24) (v := ?_) (by rfl) (by kernel_rfl) (by kernel_rfl) (by kernel_rfl) (by exact fun _ _ _ h => h) (Or.inl ⟨by rfl, ?_⟩) hHeld ?_
    rotate_left 1
    · intro w' hSw
      go_simp
      try with_reducible rfl
    try simp only [Act.put, List.setIfInBounds_toArray, List.set_cons_zero, List.set_cons_succ, List.getElem_toArray, List.getElem_cons_zero, List.getElem_cons_succ]
    refine wpAnyH_take (i := 25) (v := ?_) (by rfl) (by kernel_rfl) (by kernel_rfl) (by kernel_rfl) (by exact fun _ _ _ h => h) (Or.inl ⟨by rfl, ?_⟩) hHeld ?_
    rotate_left 1
    · intro w' hSw
      go_simp
      try with_reducible rfl
    try simp only [Act.put, List.setIfInBounds_toArray, List.set_cons_zero, List.set_cons_succ, List.getElem_toArray, List.getElem_cons_zero, List.getElem_cons_succ]
    refine wpAnyH_take (i := 26) (v := ?_) (by rfl) (by kernel_rfl) (by kernel_rfl) (by kernel_rfl) (by exact fun _ _ _ h => h) (Or.inl ⟨by rfl, ?_⟩) hHeld ?_
    rotate_left 1
    · intro w' hSw
      go_simp
      try with_reducible rfl
    try simp only [Act.put, List.setIfInBounds_toArray, List.set_cons_zero, List.set_cons_succ, List.getElem_toArray, List.getElem_cons_zero, List.getElem_cons_succ]
    refine wpAnyH_take (i := 28) (v := ?_) (by rfl) (by kernel_rfl) (by kernel_rfl) (by kernel_rfl) (by exact fun _ _ _ h => h) (Or.inl ⟨by rfl, ?_⟩) hHeld ?_
    rotate_left 1
    · intro w' hSw
      go_simp
      try with_reducible rfl
    try simp only [Act.put, List.setIfInBounds_toArray, List.set_cons_zero, List.set_cons_succ, List.getElem_toArray, List.getElem_cons_zero, List.getElem_cons_succ]
    refine wpAnyH_take (i := 29) (v := ?_) (by rfl) (by kernel_rfl) (by kernel_rfl) (by kernel_rfl) (by exact fun _ _ _ h => h) (Or.inl ⟨by rfl, ?_⟩) hHeld ?_
    rotate_left 1
    · intro w' hSw
      go_simp
      try with_reducible rfl
    try simp only [Act.put, List.setIfInBounds_toArray, List.set_cons_zero, List.set_cons_succ, List.getElem_toArray, List.getElem_cons_zero, List.getElem_cons_succ]
    refine wpAnyH_ready (rs := [27]) (by kernel_rfl) (by simp) ?_
    refine AllReadyH.cons (by rfl) (fun K hK => ?_) AllReadyH.nil
    go_simp
    with_reducible refine (HCP.out _ HC8.out).mono ?_
    rintro e v9 ⟨rfl, HC9⟩
    clear hHeld
    refine hK.out _ _ ?_ (fun hHeld => ?_)
    · exact HKK.out _ HC9.out
    clear hK K
    try simp only [Act.put, List.setIfInBounds_toArray, List.set_cons_zero, List.set_cons_succ, List.getElem_toArray, List.getElem_cons_zero, List.getElem_cons_succ]
    refine wpAnyH_ready (rs := [30]) (by kernel_rfl) (by simp) ?_
    refine AllReadyH.cons (by rfl) (fun K hK => ?_) AllReadyH.nil
    go_simp
    with_reducible refine (HCR.out _ HC9.out).mono ?_
    rintro e v10 ⟨rfl, HC10⟩
    clear hHeld
    refine hK.out _ _ ?_ (fun hHeld => ?_)
    · exact HKK.out _ HC10.out
    clear hK K
    try simp only [Act.put, List.setIfInBounds_toArray, List.set_cons_zero, List.set_cons_succ, List.getElem_toArray, List.getElem_cons_zero, List.getElem_cons_succ]
    refine wpAnyH_take (i := 31) (v := ?_) (by rfl) (by kernel_rfl) (by kernel_rfl) (by kernel_rfl) (by exact fun _ _ _ h => h) (Or.inl ⟨by rfl, ?_⟩) hHeld ?_
    rotate_left 1
    · intro w' hSw
      go_simp
      try with_reducible rfl
    try simp only [Act.put, List.setIfInBounds_toArray, List.set_cons_zero, List.set_cons_succ, List.getElem_toArray, List.getElem_cons_zero, List.getElem_cons_succ]
    refine wpAnyH_take (i := 32) (v := ?_) (by rfl) (by kernel_rfl) (by kernel_rfl) (by kernel_rfl) (by exact fun _ _ _ h => h) (Or.inl ⟨by rfl, ?_⟩) hHeld ?_
    rotate_left 1
    · intro w' hSw
      go_simp
      try with_reducible rfl
    try simp only [Act.put, List.setIfInBounds_toArray, List.set_cons_zero, List.set_cons_succ, List.getElem_toArray, List.getElem_cons_zero, List.getElem_cons_succ]
    refine wpAnyH_take (i := 33) (v := ?_) (by rfl) (by kernel_rfl) (by kernel_rfl) (by kernel_rfl) (by exact fun _ _ _ h => h) (Or.inl ⟨by rfl, ?_⟩) hHeld ?_
    rotate_left 1
    · intro w' hSw
      go_simp
      try with_reducible rfl
    try simp only [Act.put, List.setIfInBounds_toArray, List.set_cons_zero, List.set_cons_succ, List.getElem_toArray, List.getElem_cons_zero, List.getElem_cons_succ]
    refine wpAnyH_take (i := 34) (v := ?_) (by rfl) (by kernel_rfl) (by kernel_rfl) (by kernel_rfl) (by exact fun _ _ _ h => h) (Or.inl ⟨by rfl, ?_⟩) hHeld ?_
    rotate_left 1
    · intro w' hSw
      go_simp
      try with_reducible rfl
    try simp only [Act.put, List.setIfInBounds_toArray, List.set_cons_zero, List.set_cons_succ, List.getElem_toArray, List.getElem_cons_zero, List.getElem_cons_succ]
    refine wpAnyH_take (i := 36) (v := ?_) (by rfl) (by kernel_rfl) (by kernel_rfl) (by kernel_rfl) (by exact fun _ _ _ h => h) (Or.inl ⟨by rfl, ?_⟩) hHeld ?_
    rotate_left 1
    · intro w' hSw
      go_simp
      try with_reducible rfl
    try simp only [Act.put, List.setIfInBounds_toArray, List.set_cons_zero, List.set_cons_succ, List.getElem_toArray, List.getElem_cons_zero, List.getElem_cons_succ]
    refine wpAnyH_ready (rs := [35]) (by kernel_rfl) (by simp) ?_
    refine AllReadyH.cons (by rfl) (fun K hK => ?_) AllReadyH.nil
    go_simp
    with_reducible refine (HTX.out _ HC10.out).mono ?_
    rintro e v11 ⟨rfl, HC11⟩
    clear hHeld
    refine hK.out _ _ ?_ (fun hHeld => ?_)
    · exact HKK.out _ HC11.out
    clear hK K
    try simp only [Act.put, List.setIfInBounds_toArray, List.set_cons_zero, List.set_cons_succ, List.getElem_toArray, List.getElem_cons_zero, List.getElem_cons_succ]
    refine wpAnyH_ready (rs := [37]) (by kernel_rfl) (by simp) ?_
    refine AllReadyH.cons (by rfl) (fun K hK => ?_) AllReadyH.nil
    go_simp
    with_reducible refine (HTR.out _ HC11.out).mono ?_
    rintro e v12 ⟨rfl, HC12⟩
    clear hHeld
    refine hK.out _ _ ?_ (fun hHeld => ?_)
    · exact HKK.out _ HC12.out
    clear hK K
    try simp only [Act.put, List.setIfInBounds_toArray, List.set_cons_zero, List.set_cons_succ, List.getElem_toArray, List.getElem_cons_zero, List.getElem_cons_succ]
    refine wpAnyH_take (i := 38) (v := ?_) (by rfl) (by kernel_rfl) (by kernel_rfl) (by kernel_rfl) (by exact fun _ _ _ h => h) (Or.inl ⟨by rfl, ?_⟩) hHeld ?_
    rotate_left 1
    · intro w' hSw
      go_simp
      try with_reducible rfl
    try simp only [Act.put, List.setIfInBounds_toArray, List.set_cons_zero, List.set_cons_succ, List.getElem_toArray, List.getElem_cons_zero, List.getElem_cons_succ]
    refine wpAnyH_take (i := 39) (v := ?_) (by rfl) (by kernel_rfl) (by kernel_rfl) (by kernel_rfl) (by exact fun _ _ _ h => h) (Or.inl ⟨by rfl, ?_⟩) hHeld ?_
    rotate_left 1
    · intro w' hSw
      go_simp
      try with_reducible rfl
    try simp only [Act.put, List.setIfInBounds_toArray, List.set_cons_zero, List.set_cons_succ, List.getElem_toArray, List.getElem_cons_zero, List.getElem_cons_succ]
    refine wpAnyH_take (i := 40) (v := ?_) (by rfl) (by kernel_rfl) (by kernel_rfl) (by kernel_rfl) (by exact fun _ _ _ h => h) (Or.inl ⟨by rfl, ?_⟩) hHeld ?_
    rotate_left 1
    · intro w' hSw
      go_simp
      try with_reducible rfl
    try simp only [Act.put, List.setIfInBounds_toArray, List.set_cons_zero, List.set_cons_succ, List.getElem_toArray, List.getElem_cons_zero, List.getElem_cons_succ]
    refine wpAnyH_take (i := 41) (v := ?_) (by rfl) (by kernel_rfl) (by kernel_rfl) (by kernel_rfl) (by exact fun _ _ _ h => h) (Or.inl ⟨by rfl, ?_⟩) hHeld ?_
    rotate_left 1
    · intro w' hSw
      go_simp
      try with_reducible rfl
    try simp only [Act.put, List.setIfInBounds_toArray, List.set_cons_zero, List.set_cons_succ, List.getElem_toArray, List.getElem_cons_zero, List.getElem_cons_succ]
    refine wpAnyH_take (i := 43) (v := ?_) (by rfl) (by kernel_rfl) (by kernel_rfl) (by kernel_rfl) (by exact fun _ _ _ h => h) (Or.inl ⟨by rfl, ?_⟩) hHeld ?_
    rotate_left 1
    · intro w' hSw
      go_simp
      try with_reducible rfl
    try simp only [Act.put, List.setIfInBounds_toArray, List.set_cons_zero, List.set_cons_succ, List.getElem_toArray, List.getElem_cons_zero, List.getElem_cons_succ]
    refine wpAnyH_take (i := 44) (v := ?_) (by rfl) (by kernel_rfl) (by kernel_rfl) (by kernel_rfl) (by exact fun _ _ _ h => h) (Or.inl ⟨by rfl, ?_⟩) hHeld ?_
    rotate_left 1
    · intro w' hSw
      go_simp
      try with_reducible rfl
    try simp only [Act.put, List.setIfInBounds_toArray, List.set_cons_zero, List.set_cons_succ, List.getElem_toArray, List.getElem_cons_zero, List.getElem_cons_succ]
    refine wpAnyH_ready (rs := [42]) (by kernel_rfl) (by simp) ?_
    refine AllReadyH.cons (by rfl) (fun K hK => ?_) AllReadyH.nil
    go_simp
    with_reducible refine (HDO.out _ HC12.out).mono ?_
    rintro e v13 ⟨x13_0, x13_1, x13_2, x13_3, x13_4, x13_5, x13_6, y13_0, y13_1, y13_2, y13_3, y13_4, y13_5, y13_6, rfl, HC13, HV13, HU13⟩
    clear hHeld
    refine hK.out _ _ ?_ (fun hHeld => ?_)
    · exact HKK.out _ HC13.out
    clear hK K
    try simp only [Act.put, List.setIfInBounds_toArray, List.set_cons_zero, List.set_cons_succ, List.getElem_toArray, List.getElem_cons_zero, List.getElem_cons_succ]
    refine wpAnyH_ready (rs := [45]) (by kernel_rfl) (by simp) ?_
    refine AllReadyH.cons (by rfl) (fun K hK => ?_) AllReadyH.nil
    go_simp
    with_reducible refine (HSM.out _ _ _ _ _ _ _ _ _ _ _ _ _ _ _ HC13.out HV13.out HU13.out).mono ?_
    rintro e v14 ⟨rfl, HC14⟩
    clear hHeld
    refine hK.out _ _ ?_ (fun hHeld => ?_)
    · exact HKK.out _ HC14.out
    clear hK K
    try simp only [Act.put, List.setIfInBounds_toArray, List.set_cons_zero, List.set_cons_succ, List.getElem_toArray, List.getElem_cons_zero, List.getElem_cons_succ]
    refine wpAnyH_take (i := 46) (v := ?_) (by rfl) (by kernel_rfl) (by kernel_rfl) (by kernel_rfl) (by exact fun _ _ _ h => h) (Or.inl ⟨by rfl, ?_⟩) hHeld ?_
    rotate_left 1
    · intro w' hSw
      go_simp
      try with_reducible rfl
    try simp only [Act.put, List.setIfInBounds_toArray, List.set_cons_zero, List.set_cons_succ, List.getElem_toArray, List.getElem_cons_zero, List.getElem_cons_succ]
    refine wpAnyH_take (i := 47) (v := ?_) (by rfl) (by kernel_rfl) (by kernel_rfl) (by kernel_rfl) (by exact fun _ _ _ h => h) (Or.inl ⟨by rfl, ?_⟩) hHeld ?_
    rotate_left 1
    · intro w' hSw
      go_simp
      try with_reducible rfl
    try simp only [Act.put, List.setIfInBounds_toArray, List.set_cons_zero, List.set_cons_succ, List.getElem_toArray, List.getElem_cons_zero, List.getElem_cons_succ]
    refine wpAnyH_done (by kernel_rfl) ?_ _
    clear hHeld
    have HE := Lib.hid (HBL.out.trans (HC14.out.mono HBL.out.size))
    clear HC1 HC2 HC3 HC4 HC5 HC6 HC7 HC8 HC9 HC10 HC11 HC12 HC13 HC14 G0
    go_wp2_with fail
    go_ret
    exact ⟨rfl, HE.out⟩
end Go.Proofs.YtomoemgoglghlaaGreatDoor
