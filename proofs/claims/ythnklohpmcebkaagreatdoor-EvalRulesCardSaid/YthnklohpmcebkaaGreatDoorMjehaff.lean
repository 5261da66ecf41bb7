/- By program out of: EvRules. -/
import Derived.Test.YthnklohpmcebkaaGreatDoorMgcgdpk
set_option linter.unusedVariables false
set_option linter.unusedSimpArgs false
namespace Go.Proofs.YthnklohpmcebkaaGreatDoor
open Go.RowKit Tm Rep Ev Law
theorem start_law {w5 : World} : LSt w5 ((w5.alloc (.cells #[.int .i64 3, .int .i64 0, .slice none 0 0, .bool false, .slice none 0 0, .slice none 0 0, .int .i64 3, .int .i64 1, .slice none 0 0, .bool false, .slice none 0 0, .slice none 0 0, .int .i64 4, .int .i64 0, .slice none 0 0, .bool false, .slice none 0 0, .slice none 0 0, .int .i64 4, .int .i64 1, .slice none 0 0, .bool false, .slice none 0 0, .slice none 0 0] 33)).alloc (.cells #[.slice (some ⟨w5.heap.size, 0, none⟩) 4 4] 34)) (w5.heap.size + 1) 4 := by
  have hal := (Below.refl w5.heap.size w5).alloc (Nat.le_refl _) (.cells #[.int .i64 3, .int .i64 0, .slice none 0 0, .bool false, .slice none 0 0, .slice none 0 0, .int .i64 3, .int .i64 1, .slice none 0 0, .bool false, .slice none 0 0, .slice none 0 0, .int .i64 4, .int .i64 0, .slice none 0 0, .bool false, .slice none 0 0, .slice none 0 0, .int .i64 4, .int .i64 1, .slice none 0 0, .bool false, .slice none 0 0, .slice none 0 0] 33)
  refine ⟨⟨.slice (some ⟨w5.heap.size, 0, none⟩) 4 4, [nodeOf 3 0 none 0 [], nodeOf 3 1 none 0 [], nodeOf 4 0 none 0 [], nodeOf 4 1 none 0 []], rfl, rfl, ?_, ⟨rfl, .inr ⟨w5.heap.size, 4, #[.int .i64 3, .int .i64 0, .slice none 0 0, .bool false, .slice none 0 0, .slice none 0 0, .int .i64 3, .int .i64 1, .slice none 0 0, .bool false, .slice none 0 0, .slice none 0 0, .int .i64 4, .int .i64 0, .slice none 0 0, .bool false, .slice none 0 0, .slice none 0 0, .int .i64 4, .int .i64 1, .slice none 0 0, .bool false, .slice none 0 0, .slice none 0 0], rfl, Nat.le_refl _, ?_, Nat.le_refl _, by unfold maxLen; omega, rfl, rfl⟩⟩, fun d hd => ?_⟩, by omega, hal.alloc hal.size _⟩
  · have := heap_alloc_new (w5.alloc (.cells #[.int .i64 3, .int .i64 0, .slice none 0 0, .bool false, .slice none 0 0, .slice none 0 0, .int .i64 3, .int .i64 1, .slice none 0 0, .bool false, .slice none 0 0, .slice none 0 0, .int .i64 4, .int .i64 0, .slice none 0 0, .bool false, .slice none 0 0, .slice none 0 0, .int .i64 4, .int .i64 1, .slice none 0 0, .bool false, .slice none 0 0, .slice none 0 0] 33)) (.cells #[.slice (some ⟨w5.heap.size, 0, none⟩) 4 4] 34)
    rw [World.size_alloc] at this
    exact this
  · rw [Below.heap_alloc _ _ _ (by simp)]
    exact heap_alloc_new w5 _
  · simp only [List.mem_cons, List.not_mem_nil, or_false] at hd
    rcases hd with rfl | rfl | rfl | rfl <;> exact ⟨⟨_, _, _, _, _, rfl, by simp, .inl ⟨rfl, rfl, rfl⟩⟩⟩
set_option maxRecDepth 100000 in
set_option maxHeartbeats 32000000 in
theorem evalRules_walk {w : World} (p q : Bool) {s0 : Bool} {a0 b0 : Option Addr} {c0 e0 : Nat} {xs0 ds0 : List Nat} {s1 : Bool} {a1 b1 : Option Addr} {c1 e1 : Nat} {xs1 ds1 : List Nat} (hx0 : HandR w a0 c0 xs0 b0 e0 ds0) (hx1 : HandR w a1 c1 xs1 b1 e1 ds1) (hT : Tab w) :
    Calls Tryz.prog 3 #[.bool p, .bool q, .agg #[.bool s0, .slice a0 xs0.length c0, .slice b0 ds0.length e0], .agg #[.bool s1, .slice a1 xs1.length c1, .slice b1 ds1.length e1]] w (Holds w) := by
  obtain ⟨W0, hW0, hB0, k1, k2, hsz⟩ := boxes2 w #[.bool s0, .slice a0 xs0.length c0, .slice b0 ds0.length e0] #[.bool s1, .slice a1 xs1.length c1, .slice b1 ds1.length e1] 27 27
  have HSP := Lib.hid (speaks10 (hT.kept hB0))
  have HK : Hid (∀ W, Below W0.heap.size W0 W → (W.cell? ⟨w.heap.size, 0, none⟩ = some (.bool s0) ∧ W.cell? ⟨w.heap.size, 1, none⟩ = some (.slice a0 xs0.length c0) ∧ W.cell? ⟨w.heap.size, 2, none⟩ = some (.slice b0 ds0.length e0)) ∧ (W.cell? ⟨w.heap.size + 1, 0, none⟩ = some (.bool s1) ∧ W.cell? ⟨w.heap.size + 1, 1, none⟩ = some (.slice a1 xs1.length c1) ∧ W.cell? ⟨w.heap.size + 1, 2, none⟩ = some (.slice b1 ds1.length e1))) := Lib.hid fun W h => by
    obtain ⟨q0, q1, q2, _⟩ := cells3 (stay k1 h)
    obtain ⟨q3, q4, q5, _⟩ := cells3 (stay k2 h)
    exact ⟨⟨q0, q1, q2⟩, q3, q4, q5⟩
  have HBX : Hid (∀ W, Below W0.heap.size W0 W → W.rangeAt w.heap.size 0 [.bool s0, .slice a0 xs0.length c0, .slice b0 ds0.length e0] ∧ W.rangeAt (w.heap.size + 1) 0 [.bool s1, .slice a1 xs1.length c1, .slice b1 ds1.length e1]) := Lib.hid fun W h => ⟨range_of_block (stay k1 h), range_of_block (stay k2 h)⟩
  have HW0 := Lib.hid hW0
  have HB := Lib.hid hB0
  have HT := Lib.hid (hT.kept hB0)
  have HX0 := Lib.hid (hx0.kept hB0)
  have HX1 := Lib.hid (hx1.kept hB0)
  obtain ⟨⟨p0, p1, p2⟩, p3, p4, p5⟩ := HK.out W0 (Below.refl _ _)
  have HSZ := Lib.hid hsz
  clear hW0 hB0 k1 k2 hx0 hx1 hT hsz
  go_enter Tryz.func3, Tryz.ntmps3
  go_wp2_with fail
  rw [← HW0.out]
  refine HSP.out.mono ?_
  rintro e w1 ⟨rfl, hb1⟩
  obtain ⟨⟨p0, p1, p2⟩, p3, p4, p5⟩ := HK.out _ hb1
  have HB1 := Lib.hid hb1
  clear hb1 HSP HW0
  go_wp2_with fail
  have HBL1 := Lib.hid (HB.out.trans (HB1.out.mono HB.out.size))
  have hal := (Below.refl w1.heap.size w1).alloc (Nat.le_refl _) (.cells #[.bool s0, .slice a0 xs0.length c0, .slice b0 ds0.length e0, .bool s1, .slice a1 xs1.length c1, .slice b1 ds1.length e1] 27)
  have HAL := Lib.hid hal
  have HG : Hid (Calls Tryz.prog 5 #[.slice (some ⟨w1.heap.size, 0, none⟩) 2 2] (w1.alloc (.cells #[.bool s0, .slice a0 xs0.length c0, .slice b0 ds0.length e0, .bool s1, .slice a1 xs1.length c1, .slice b1 ds1.length e1] 27)) (GivesB (greatB [(s0, (a0, xs0.length, c0), (b0, ds0.length, e0)), (s1, (a1, xs1.length, c1), (b1, ds1.length, e1))]) (w1.alloc (.cells #[.bool s0, .slice a0 xs0.length c0, .slice b0 ds0.length e0, .bool s1, .slice a1 xs1.length c1, .slice b1 ds1.length e1] 27)))) :=
    Lib.hid (Great_any w1.heap.size 2 [(s0, (a0, xs0.length, c0), (b0, ds0.length, e0)), (s1, (a1, xs1.length, c1), (b1, ds1.length, e1))] _ (Rats.two (heap_alloc_new w1 _)) (by simp) (by simp))
  clear hal
  cases hgr : greatB [(s0, (a0, xs0.length, c0), (b0, ds0.length, e0)), (s1, (a1, xs1.length, c1), (b1, ds1.length, e1))]
  case true =>
    rw [hgr] at HG
    clear hgr
    refine HG.out.mono ?_
    rintro e w2 ⟨rfl, hb2⟩
    have HE := Lib.hid (HBL1.out.trans ((HAL.out.trans (hb2.mono HAL.out.size)).mono HBL1.out.size))
    clear hb2 HG HAL
    go_wp2_with fail
    go_ret
    exact ⟨rfl, HE.out⟩
  case false =>
  rw [hgr] at HG
  obtain ⟨l0, m0, l1, m1⟩ := great_two hgr
  clear hgr
  refine HG.out.mono ?_
  rintro e w2 ⟨rfl, hb2⟩
  have hb02 := HB1.out.trans ((HAL.out.trans (hb2.mono HAL.out.size)).mono HB1.out.size)
  have HB2 := Lib.hid hb02
  obtain ⟨⟨p0, p1, p2⟩, p3, p4, p5⟩ := HK.out _ hb02
  clear hb2 hb02 HG HAL HB1 HBL1
  have HR0 := Lib.hid (RightR_any' (s := s0) (HX0.out.kept HB2.out) l0 m0)
  go_wp2_with fail
  cases hr0 : rightB s0 xs0 ds0
  case false =>
    rw [hr0] at HR0
    clear hr0
    refine HR0.out.mono ?_
    rintro e w3 ⟨rfl, hb3⟩
    have HE := Lib.hid (HB.out.trans ((HB2.out.trans (hb3.mono HB2.out.size)).mono HB.out.size))
    clear hb3 HR0
    go_wp2_with fail
    go_ret
    exact ⟨rfl, HE.out⟩
  case true =>
  rw [hr0] at HR0
  have HRT0 := Lib.hid hr0
  clear hr0
  refine HR0.out.mono ?_
  rintro e w3 ⟨rfl, hb3⟩
  have hb03 := HB2.out.trans (hb3.mono HB2.out.size)
  obtain ⟨⟨p0, p1, p2⟩, p3, p4, p5⟩ := HK.out _ hb03
  have HB3 := Lib.hid hb03
  clear hb3 hb03 HR0 HB2
  have HR1 := Lib.hid (RightR_any' (s := s1) (HX1.out.kept HB3.out) l1 m1)
  go_wp2_with fail
  cases hr1 : rightB s1 xs1 ds1
  case false =>
    rw [hr1] at HR1
    clear hr1
    refine HR1.out.mono ?_
    rintro e w4 ⟨rfl, hb4⟩
    have HE := Lib.hid (HB.out.trans ((HB3.out.trans (hb4.mono HB3.out.size)).mono HB.out.size))
    clear hb4 HR1
    go_wp2_with fail
    go_ret
    exact ⟨rfl, HE.out⟩
  case true =>
  rw [hr1] at HR1
  have HRT1 := Lib.hid hr1
  clear hr1
  refine HR1.out.mono ?_
  rintro e w5 ⟨rfl, hb4⟩
  have hb05 := HB3.out.trans (hb4.mono HB3.out.size)
  have HB5 := Lib.hid hb05
  clear hb4 hb05 HR1 HB3
  have hst := @start_law w5
  obtain ⟨w6, hw6⟩ : ∃ w6, w6 = (w5.alloc (.cells #[.int .i64 3, .int .i64 0, .slice none 0 0, .bool false, .slice none 0 0, .slice none 0 0, .int .i64 3, .int .i64 1, .slice none 0 0, .bool false, .slice none 0 0, .slice none 0 0, .int .i64 4, .int .i64 0, .slice none 0 0, .bool false, .slice none 0 0, .slice none 0 0, .int .i64 4, .int .i64 1, .slice none 0 0, .bool false, .slice none 0 0, .slice none 0 0] 33)).alloc (.cells #[.slice (some ⟨w5.heap.size, 0, none⟩) 4 4] 34) := ⟨_, rfl⟩
  rw [← hw6] at hst
  have hs6 : w6.heap.size = w5.heap.size + 1 + 1 := by rw [hw6]; simp
  have HL := Lib.hid (And.intro l0 (And.intro m0 (And.intro l1 m1)))
  clear l0 m0 l1 m1 p0 p1 p2 p3 p4 p5
  go_wp2_with fail
  rw [← hw6, ← hs6]
  obtain ⟨PB, hPB⟩ : ∃ PB, w5.heap.size + 1 = PB := ⟨_, rfl⟩
  rw [hPB] at hst ⊢
  clear hw6 hs6 hPB
  refine (add_step (i := 4) hst 7 [0, 1] rfl (by decide)).mono ?_
  rintro e y5 ⟨rfl, h5⟩
  clear hst
  go_wp2_with fail
  refine (add_step (i := 5) h5 6 [4] rfl (by decide)).mono ?_
  rintro e y6 ⟨rfl, h6⟩
  clear h5
  go_wp2_with fail
  refine (add_step (i := 6) h6 6 [0] rfl (by decide)).mono ?_
  rintro e y7 ⟨rfl, h7⟩
  clear h6
  go_wp2_with fail
  refine (add_step (i := 7) h7 6 [1] rfl (by decide)).mono ?_
  rintro e y8 ⟨rfl, h8⟩
  clear h7
  go_wp2_with fail
  refine (add_step (i := 8) h8 8 [6, 7] rfl (by decide)).mono ?_
  rintro e y9 ⟨rfl, h9⟩
  clear h8
  go_wp2_with fail
  refine (add_step (i := 9) h9 12 [5, 8] rfl (by decide)).mono ?_
  rintro e y10 ⟨rfl, h10⟩
  clear h9
  go_wp2_with fail
  refine (add_step (i := 10) h10 10 [0, 1] rfl (by decide)).mono ?_
  rintro e y11 ⟨rfl, h11⟩
  clear h10
  go_wp2_with fail
  refine (add_step (i := 11) h11 6 [0] rfl (by decide)).mono ?_
  rintro e y12 ⟨rfl, h12⟩
  clear h11
  go_wp2_with fail
  refine (add_step (i := 12) h12 8 [11, 1] rfl (by decide)).mono ?_
  rintro e y13 ⟨rfl, h13⟩
  clear h12
  go_wp2_with fail
  refine (add_step (i := 13) h13 12 [10, 12] rfl (by decide)).mono ?_
  rintro e y14 ⟨rfl, h14⟩
  clear h13
  go_wp2_with fail
  refine (add_step (i := 14) h14 9 [0, 1] rfl (by decide)).mono ?_
  rintro e y15 ⟨rfl, h15⟩
  clear h14
  go_wp2_with fail
  refine (add_step (i := 15) h15 13 [0, 1] rfl (by decide)).mono ?_
  rintro e y16 ⟨rfl, h16⟩
  clear h15
  go_wp2_with fail
  refine (add_step (i := 16) h16 12 [14, 15] rfl (by decide)).mono ?_
  rintro e y17 ⟨rfl, h17⟩
  clear h16
  go_wp2_with fail
  refine (add_step (i := 17) h17 13 [2, 3] rfl (by decide)).mono ?_
  rintro e y18 ⟨rfl, h18⟩
  clear h17
  go_wp2_with fail
  refine (add_step (i := 18) h18 12 [2, 3] rfl (by decide)).mono ?_
  rintro e y19 ⟨rfl, h19⟩
  clear h18
  go_wp2_with fail
  refine (add_step (i := 19) h19 6 [18] rfl (by decide)).mono ?_
  rintro e y20 ⟨rfl, h20⟩
  clear h19
  go_wp2_with fail
  refine (add_step (i := 20) h20 12 [17, 19] rfl (by decide)).mono ?_
  rintro e y21 ⟨rfl, h21⟩
  clear h20
  go_wp2_with fail
  refine (add_step (i := 21) h21 14 [2, 3] rfl (by decide)).mono ?_
  rintro e y22 ⟨rfl, h22⟩
  clear h21
  go_wp2_with fail
  refine (add_step (i := 22) h22 17 [2, 3] rfl (by decide)).mono ?_
  rintro e y23 ⟨rfl, h23⟩
  clear h22
  go_wp2_with fail
  refine (add_step (i := 23) h23 6 [22] rfl (by decide)).mono ?_
  rintro e y24 ⟨rfl, h24⟩
  clear h23
  go_wp2_with fail
  refine (add_step (i := 24) h24 12 [21, 23] rfl (by decide)).mono ?_
  rintro e y25 ⟨rfl, h25⟩
  clear h24
  go_wp2_with fail
  refine (add_step (i := 25) h25 16 [2, 3] rfl (by decide)).mono ?_
  rintro e y26 ⟨rfl, h26⟩
  clear h25
  go_wp2_with fail
  refine (add_step (i := 26) h26 14 [3, 2] rfl (by decide)).mono ?_
  rintro e y27 ⟨rfl, h27⟩
  clear h26
  go_wp2_with fail
  refine (add_step (i := 27) h27 12 [25, 26] rfl (by decide)).mono ?_
  rintro e y28 ⟨rfl, h28⟩
  clear h27
  go_wp2_with fail
  refine (add_step (i := 28) h28 18 [2, 3] rfl (by decide)).mono ?_
  rintro e y29 ⟨rfl, h29⟩
  clear h28
  go_wp2_with fail
  refine (add_step (i := 29) h29 19 [28, 3] rfl (by decide)).mono ?_
  rintro e y30 ⟨rfl, h30⟩
  clear h29
  go_wp2_with fail
  refine (add_step (i := 30) h30 12 [29, 2] rfl (by decide)).mono ?_
  rintro e y31 ⟨rfl, h31⟩
  clear h30
  go_wp2_with fail
  refine (add_step (i := 31) h31 11 [0, 2, 3] rfl (by decide)).mono ?_
  rintro e y32 ⟨rfl, h32⟩
  clear h31
  go_wp2_with fail
  refine (add_step (i := 32) h32 6 [0] rfl (by decide)).mono ?_
  rintro e y33 ⟨rfl, h33⟩
  clear h32
  go_wp2_with fail
  refine (add_step (i := 33) h33 11 [32, 3, 2] rfl (by decide)).mono ?_
  rintro e y34 ⟨rfl, h34⟩
  clear h33
  go_wp2_with fail
  refine (add_step (i := 34) h34 12 [31, 33] rfl (by decide)).mono ?_
  rintro e y35 ⟨rfl, h35⟩
  clear h34
  go_wp2_with fail
  obtain ⟨Gn, vc, hpc, hout⟩ := h35.out
  obtain ⟨W8, hW8⟩ : ∃ W8, W8 = y35.alloc (.cells #[.int .i64 9, .int .i64 13, .int .i64 16, .int .i64 20, .int .i64 24, .int .i64 27, .int .i64 30, .int .i64 34] 3) := ⟨_, rfl⟩
  rw [← hW8]
  have hal8 : Below y35.heap.size y35 W8 := by rw [hW8]; exact (Below.refl _ _).alloc (Nat.le_refl _) _
  have hA8 : W8.heap[y35.heap.size]? = some (.cells #[.int .i64 9, .int .i64 13, .int .i64 16, .int .i64 20, .int .i64 24, .int .i64 27, .int .i64 30, .int .i64 34] 3 (0, 0)) := by rw [hW8]; exact heap_alloc_new y35 _
  have hb58 : Below w5.heap.size w5 W8 := h35.below.trans (hal8.mono h35.below.size)
  have hb08 : Below W0.heap.size W0 W8 := HB5.out.trans (hb58.mono HB5.out.size)
  have hpc8 := cell_kept hpc hal8
  have HBW8 := Lib.hid (HB.out.trans (hb08.mono HB.out.size))
  have HLT := Lib.hid (And.intro (show w.heap.size + 1 < W8.heap.size by have := HSZ.out; have := hb08.size; omega) (show PB < W8.heap.size from World.block_lt_of_cell? _ _ hpc8))
  have HS := Lib.hid (show W8.drew.rangeAt w.heap.size 0 [.bool s0, .slice a0 xs0.length c0, .slice b0 ds0.length e0] ∧ W8.drew.rangeAt (w.heap.size + 1) 0 [.bool s1, .slice a1 xs1.length c1, .slice b1 ds1.length e1] ∧ W8.drew.cell? ⟨PB, 0, none⟩ = some (.slice (some ⟨Gn, 0, none⟩) 35 vc) from ⟨(HBX.out W8 hb08).1, (HBX.out W8 hb08).2, hpc8⟩)
  have HCALL : Hid (∀ (C : World) (bN bB bR : Nat), Below W8.heap.size W8 C → Bench C bN 200 false → W8.heap.size ≤ bN → C.heap[bB]? = some (.cells #[.bool p, .bool q] 4 (0, 0)) → C.heap[bR]? = some (.cells #[.bool s0, .slice a0 xs0.length c0, .slice b0 ds0.length e0, .bool s1, .slice a1 xs1.length c1, .slice b1 ds1.length e1] 27 (0, 0)) →
      Calls Tryz.prog 8 #[.pointer (some ⟨bN, 0, none⟩), .agg #[.slice none 0 0, .slice none 0 0, .slice (some ⟨Gn, 0, none⟩) 35 vc, .slice (some ⟨y35.heap.size, 0, none⟩) 8 8, .bool false, .bool false], .slice (some ⟨bB, 0, none⟩) 2 2, .slice (some ⟨bR, 0, none⟩) 2 2] C (TrueIs C bN 200 true)) := Lib.hid fun C bN bB bR hC hBN hle hbo hre => by
    obtain ⟨x, okx, sx⟩ := okq_of_right (s := s0) HX0.out HRT0.out HL.out.1 HL.out.2.1
    obtain ⟨y, oky, sy⟩ := okq_of_right (s := s1) HX1.out HRT1.out HL.out.2.2.1 HL.out.2.2.2
    have hC0 : Below W0.heap.size W0 C := hb08.trans (hC.mono hb08.size)
    obtain ⟨ts, htl, hnd, hN⟩ := hout C bN (hal8.trans (hC.mono hal8.size)) (Nat.le_trans hal8.size hle)
    have hbn := hBN
    unfold Bench at hbn
    exact law_call p q hN htl hnd (HT.out.kept hC0) hBN hbo (tag_ne10 hbo hbn (by decide)) hre (tag_ne10 hre hbn (by decide)) (VQ.kept10 ⟨okx.sg, okx.l1, okx.l2, okx.at'⟩ hC0) (VQ.kept10 ⟨oky.sg, oky.l1, oky.l2, oky.at'⟩ hC0) sx sy (HX0.out.kept hC0) (HX1.out.kept hC0) HRT0.out HRT1.out ⟨HL.out.1, HL.out.2.1⟩ ⟨HL.out.2.2.1, HL.out.2.2.2⟩ (block_kept hA8 hC) (tag_ne10 (block_kept hA8 hC) hbn (by decide))
  have HNW : Hid (∀ W, Calls Tryz.prog 9 #[.int .i64 200] W (GivesBench 200 W)) := Lib.hid fun W => new_high 200 W (by omega) (by unfold maxLen; omega)
  have HD := Lib.hid (below_drew W8)
  clear h35 hpc hout hW8 hal8 hA8 hb58 hb08 hpc8 HBX HK HX0 HX1 HT HRT0 HRT1 HL HB5
  refine wp_region_held_drew (S := (fun w' => w'.rangeAt w.heap.size 0 [.bool s0, .slice a0 xs0.length c0, .slice b0 ds0.length e0] ∧ w'.rangeAt (w.heap.size + 1) 0 [.bool s1, .slice a1 xs1.length c1, .slice b1 ds1.length e1] ∧ w'.cell? ⟨PB, 0, none⟩ = some (.slice (some ⟨Gn, 0, none⟩) 35 vc))) (by kernel_rfl) ?_ (fun hHeld => ?_)
  · exact HS.out
  refine wpAnyH_take (i := 1) (v := .slice (some ⟨Gn, 0, none⟩) 35 vc) (by rfl) (by kernel_rfl) (by kernel_rfl) (by kernel_rfl) (by exact fun _ _ _ h => h) (Or.inl ⟨by rfl, ?_⟩) hHeld ?_
  · intro w' hSw
    obtain ⟨s1', s2', s3'⟩ := hSw
    go_simp
  try simp only [Act.put, List.setIfInBounds_toArray, List.set_cons_zero, List.set_cons_succ, List.getElem_toArray, List.getElem_cons_zero, List.getElem_cons_succ]
  refine wpAnyH_take (i := 2) (v := ?_) (by rfl) (by kernel_rfl) (by kernel_rfl) (by kernel_rfl) (by exact fun _ _ _ h => h) (Or.inl ⟨by rfl, ?_⟩) hHeld ?_
  rotate_left 1
  · intro w' hSw
    (try dsimp only at hSw)
    go_simp
    try with_reducible rfl
  try simp only [Act.put, List.setIfInBounds_toArray, List.set_cons_zero, List.set_cons_succ, List.getElem_toArray, List.getElem_cons_zero, List.getElem_cons_succ]
  refine wpAnyH_take (i := 3) (v := ?_) (by rfl) (by kernel_rfl) (by kernel_rfl) (by kernel_rfl) (by exact fun _ _ _ h => h) (Or.inl ⟨by rfl, ?_⟩) hHeld ?_
  rotate_left 1
  · intro w' hSw
    (try dsimp only at hSw)
    go_simp
    try with_reducible rfl
  try simp only [Act.put, List.setIfInBounds_toArray, List.set_cons_zero, List.set_cons_succ, List.getElem_toArray, List.getElem_cons_zero, List.getElem_cons_succ]
  refine wpAnyH_take (i := 4) (v := ?_) (by rfl) (by kernel_rfl) (by kernel_rfl) (by kernel_rfl) (by exact fun _ _ _ h => h) (Or.inl ⟨by rfl, ?_⟩) hHeld ?_
  rotate_left 1
  · intro w' hSw
    (try dsimp only at hSw)
    go_simp
    try with_reducible rfl
  try simp only [Act.put, List.setIfInBounds_toArray, List.set_cons_zero, List.set_cons_succ, List.getElem_toArray, List.getElem_cons_zero, List.getElem_cons_succ]
  refine wpAnyH_take (i := 5) (v := ?_) (by rfl) (by kernel_rfl) (by kernel_rfl) (by kernel_rfl) (by exact fun _ _ _ h => h) (Or.inl ⟨by rfl, ?_⟩) hHeld ?_
  rotate_left 1
  · intro w' hSw
    (try dsimp only at hSw)
    go_simp
    try with_reducible rfl
  try simp only [Act.put, List.setIfInBounds_toArray, List.set_cons_zero, List.set_cons_succ, List.getElem_toArray, List.getElem_cons_zero, List.getElem_cons_succ]
  refine wpAnyH_take (i := 7) (v := .agg #[.bool s0, .slice a0 xs0.length c0, .slice b0 ds0.length e0]) (by rfl) (by kernel_rfl) (by kernel_rfl) (by kernel_rfl) (by exact fun _ _ _ h => h) (Or.inl ⟨by rfl, ?_⟩) hHeld ?_
  · intro w' hSw
    exact run_load_op 27 (.tmp 6) rfl w.heap.size 0 rfl [.bool s0, .slice a0 xs0.length c0, .slice b0 ds0.length e0] _ hSw.1 Tryz.underlying27 rfl (by rw [size_ratio]; rfl)
  try simp only [Act.put, List.setIfInBounds_toArray, List.set_cons_zero, List.set_cons_succ, List.getElem_toArray, List.getElem_cons_zero, List.getElem_cons_succ]
  refine wpAnyH_take (i := 8) (v := .agg #[.bool s1, .slice a1 xs1.length c1, .slice b1 ds1.length e1]) (by rfl) (by kernel_rfl) (by kernel_rfl) (by kernel_rfl) (by exact fun _ _ _ h => h) (Or.inl ⟨by rfl, ?_⟩) hHeld ?_
  · intro w' hSw
    exact run_load_op 27 (.tmp 7) rfl (w.heap.size + 1) 0 rfl [.bool s1, .slice a1 xs1.length c1, .slice b1 ds1.length e1] _ hSw.2.1 Tryz.underlying27 rfl (by rw [size_ratio]; rfl)
  try simp only [Act.put, List.setIfInBounds_toArray, List.set_cons_zero, List.set_cons_succ, List.getElem_toArray, List.getElem_cons_zero, List.getElem_cons_succ]
  refine wpAnyH_ready (rs := [0, 6, 9]) (by kernel_rfl) (by simp) ?_
  refine AllReadyH.cons (by rfl) (fun K hK => ?_) ?_
  · go_simp
    refine (HNW.out _).mono ?_
    rintro e wc1 ⟨rfl, hc1⟩
    have hal1 : Below (W8.drew).heap.size W8.drew wc1 := by rw [hc1]; exact (Below.refl _ _).alloc (Nat.le_refl _) _
    have FN1 : Hid (Bench wc1 W8.heap.size 200 false) := Lib.hid (by rw [hc1]; exact bench_at _ 200)
    have LE1 : Hid (W8.heap.size ≤ W8.heap.size) := Lib.hid (Nat.le_refl _)
    have HS1 : Hid (wc1.rangeAt w.heap.size 0 [.bool s0, .slice a0 xs0.length c0, .slice b0 ds0.length e0] ∧ wc1.rangeAt (w.heap.size + 1) 0 [.bool s1, .slice a1 xs1.length c1, .slice b1 ds1.length e1] ∧ wc1.cell? ⟨PB, 0, none⟩ = some (.slice (some ⟨Gn, 0, none⟩) 35 vc)) := Lib.hid ⟨fun j u hu => cell_kept (HS.out.1 j u hu) hal1, fun j u hu => cell_kept (HS.out.2.1 j u hu) hal1, cell_kept HS.out.2.2 hal1⟩
    have BB1 := Lib.hid ((HD.out).trans (hal1.mono (Below.size HD.out)))
    clear hc1
    refine hK.out _ _ ?_ (fun hHeld => ?_)
    · exact HS1.out
    clear hK K
    try simp only [Act.put, List.setIfInBounds_toArray, List.set_cons_zero, List.set_cons_succ, List.getElem_toArray, List.getElem_cons_zero, List.getElem_cons_succ]
    refine wpAnyH_ready (rs := [6, 9]) (by kernel_rfl) (by simp) ?_
    refine AllReadyH.cons (by rfl) (fun K hK => ?_) ?_
    · go_simp
      obtain ⟨wc2, hc2⟩ : ∃ wc2, wc2 = wc1.alloc (.cells #[.bool p, .bool q] 4) := ⟨_, rfl⟩
      rw [← hc2]
      have hal2 : Below wc1.heap.size wc1 wc2 := by rw [hc2]; exact (Below.refl _ _).alloc (Nat.le_refl _) _
      have FBo2 : Hid (wc2.heap[wc1.heap.size]? = some (.cells #[.bool p, .bool q] 4 (0, 0))) := Lib.hid (by rw [hc2]; exact heap_alloc_new wc1 _)
      have HS2 : Hid (wc2.rangeAt w.heap.size 0 [.bool s0, .slice a0 xs0.length c0, .slice b0 ds0.length e0] ∧ wc2.rangeAt (w.heap.size + 1) 0 [.bool s1, .slice a1 xs1.length c1, .slice b1 ds1.length e1] ∧ wc2.cell? ⟨PB, 0, none⟩ = some (.slice (some ⟨Gn, 0, none⟩) 35 vc)) := Lib.hid ⟨fun j u hu => cell_kept (HS1.out.1 j u hu) hal2, fun j u hu => cell_kept (HS1.out.2.1 j u hu) hal2, cell_kept HS1.out.2.2 hal2⟩
      have BB2 := Lib.hid ((BB1.out).trans (hal2.mono (Below.size BB1.out)))
      have FN2 := Lib.hid ((FN1.out).kept hal2)
      clear hc2
      refine hK.out _ _ ?_ (fun hHeld => ?_)
      · exact HS2.out
      clear hK K
      try simp only [Act.put, List.setIfInBounds_toArray, List.set_cons_zero, List.set_cons_succ, List.getElem_toArray, List.getElem_cons_zero, List.getElem_cons_succ]
      refine wpAnyH_ready (rs := [9]) (by kernel_rfl) (by simp) ?_
      refine AllReadyH.cons (by rfl) (fun K hK => ?_) AllReadyH.nil
      go_simp
      obtain ⟨wc3, hc3⟩ : ∃ wc3, wc3 = wc2.alloc (.cells #[.bool s0, .slice a0 xs0.length c0, .slice b0 ds0.length e0, .bool s1, .slice a1 xs1.length c1, .slice b1 ds1.length e1] 27) := ⟨_, rfl⟩
      rw [← hc3]
      have hal3 : Below wc2.heap.size wc2 wc3 := by rw [hc3]; exact (Below.refl _ _).alloc (Nat.le_refl _) _
      have FRe3 : Hid (wc3.heap[wc2.heap.size]? = some (.cells #[.bool s0, .slice a0 xs0.length c0, .slice b0 ds0.length e0, .bool s1, .slice a1 xs1.length c1, .slice b1 ds1.length e1] 27 (0, 0))) := Lib.hid (by rw [hc3]; exact heap_alloc_new wc2 _)
      have HS3 : Hid (wc3.rangeAt w.heap.size 0 [.bool s0, .slice a0 xs0.length c0, .slice b0 ds0.length e0] ∧ wc3.rangeAt (w.heap.size + 1) 0 [.bool s1, .slice a1 xs1.length c1, .slice b1 ds1.length e1] ∧ wc3.cell? ⟨PB, 0, none⟩ = some (.slice (some ⟨Gn, 0, none⟩) 35 vc)) := Lib.hid ⟨fun j u hu => cell_kept (HS2.out.1 j u hu) hal3, fun j u hu => cell_kept (HS2.out.2.1 j u hu) hal3, cell_kept HS2.out.2.2 hal3⟩
      have BB3 := Lib.hid ((BB2.out).trans (hal3.mono (Below.size BB2.out)))
      have FN3 := Lib.hid ((FN2.out).kept hal3)
      have FBo3 := Lib.hid (block_kept FBo2.out hal3)
      clear hc3
      refine hK.out _ _ ?_ (fun hHeld => ?_)
      · exact HS3.out
      clear hK K
      try simp only [Act.put, List.setIfInBounds_toArray, List.set_cons_zero, List.set_cons_succ, List.getElem_toArray, List.getElem_cons_zero, List.getElem_cons_succ]
      refine wpAnyH_ready (rs := [10]) (by kernel_rfl) (by simp) ?_
      refine AllReadyH.cons (by rfl) (fun K hK => ?_) AllReadyH.nil
      go_simp
      refine (HCALL.out _ W8.heap.size wc1.heap.size wc2.heap.size BB3.out FN3.out LE1.out FBo3.out FRe3.out).mono ?_
      rintro e wf ⟨rfl, R5⟩
      have HEND := Lib.hid ((HBW8.out.trans (BB3.out.mono HBW8.out.size)).grown R5.g (Nat.le_trans HBW8.out.size (Below.size BB3.out)) (fun k hk => by cases hk; exact Nat.le_trans HBW8.out.size LE1.out))
      have hle := LE1.out
      have HSf : Hid (wf.rangeAt w.heap.size 0 [.bool s0, .slice a0 xs0.length c0, .slice b0 ds0.length e0] ∧ wf.rangeAt (w.heap.size + 1) 0 [.bool s1, .slice a1 xs1.length c1, .slice b1 ds1.length e1] ∧ wf.cell? ⟨PB, 0, none⟩ = some (.slice (some ⟨Gn, 0, none⟩) 35 vc)) := Lib.hid ⟨range_room HS3.out.1 R5.g (by have := HLT.out.1; omega), range_room HS3.out.2.1 R5.g (by have := HLT.out.1; omega), cell_room HS3.out.2.2 R5 (by have := HLT.out.2; omega)⟩
      refine hK.out _ _ ?_ (fun hHeld => ?_)
      · exact HSf.out
      clear hK K
      try simp only [Act.put, List.setIfInBounds_toArray, List.set_cons_zero, List.set_cons_succ, List.getElem_toArray, List.getElem_cons_zero, List.getElem_cons_succ]
      refine wpAnyH_take (i := 11) (v := ?_) (by rfl) (by kernel_rfl) (by kernel_rfl) (by kernel_rfl) (by exact fun _ _ _ h => h) (Or.inl ⟨by rfl, ?_⟩) hHeld ?_
      rotate_left 1
      · intro w' hSw
        (try dsimp only at hSw)
        go_simp
        try with_reducible rfl
      try simp only [Act.put, List.setIfInBounds_toArray, List.set_cons_zero, List.set_cons_succ, List.getElem_toArray, List.getElem_cons_zero, List.getElem_cons_succ]
      refine wpAnyH_take (i := 12) (v := ?_) (by rfl) (by kernel_rfl) (by kernel_rfl) (by kernel_rfl) (by exact fun _ _ _ h => h) (Or.inl ⟨by rfl, ?_⟩) hHeld ?_
      rotate_left 1
      · intro w' hSw
        (try dsimp only at hSw)
        go_simp
        try with_reducible rfl
      try simp only [Act.put, List.setIfInBounds_toArray, List.set_cons_zero, List.set_cons_succ, List.getElem_toArray, List.getElem_cons_zero, List.getElem_cons_succ]
      refine wpAnyH_take (i := 13) (v := ?_) (by rfl) (by kernel_rfl) (by kernel_rfl) (by kernel_rfl) (by exact fun _ _ _ h => h) (Or.inl ⟨by rfl, ?_⟩) hHeld ?_
      rotate_left 1
      · intro w' hSw
        (try dsimp only at hSw)
        go_simp
        try with_reducible rfl
      try simp only [Act.put, List.setIfInBounds_toArray, List.set_cons_zero, List.set_cons_succ, List.getElem_toArray, List.getElem_cons_zero, List.getElem_cons_succ]
      refine wpAnyH_take (i := 14) (v := ?_) (by rfl) (by kernel_rfl) (by kernel_rfl) (by kernel_rfl) (by exact fun _ _ _ h => h) (Or.inl ⟨by rfl, ?_⟩) hHeld ?_
      rotate_left 1
      · intro w' hSw
        (try dsimp only at hSw)
        go_simp
        try with_reducible rfl
      try simp only [Act.put, List.setIfInBounds_toArray, List.set_cons_zero, List.set_cons_succ, List.getElem_toArray, List.getElem_cons_zero, List.getElem_cons_succ]
      refine wpAnyH_take (i := 15) (v := ?_) (by rfl) (by kernel_rfl) (by kernel_rfl) (by kernel_rfl) (by exact fun _ _ _ h => h) (Or.inl ⟨by rfl, ?_⟩) hHeld ?_
      rotate_left 1
      · intro w' hSw
        (try dsimp only at hSw)
        go_simp
        try with_reducible rfl
      try simp only [Act.put, List.setIfInBounds_toArray, List.set_cons_zero, List.set_cons_succ, List.getElem_toArray, List.getElem_cons_zero, List.getElem_cons_succ]
      refine wpAnyH_done (by kernel_rfl) ?_ _
      clear hHeld
      go_wp2_with fail
      go_ret
      exact ⟨rfl, HEND.out⟩
    refine AllReadyH.cons (by rfl) (fun K hK => ?_) ?_
    · go_simp
      obtain ⟨wc5, hc5⟩ : ∃ wc5, wc5 = wc1.alloc (.cells #[.bool s0, .slice a0 xs0.length c0, .slice b0 ds0.length e0, .bool s1, .slice a1 xs1.length c1, .slice b1 ds1.length e1] 27) := ⟨_, rfl⟩
      rw [← hc5]
      have hal5 : Below wc1.heap.size wc1 wc5 := by rw [hc5]; exact (Below.refl _ _).alloc (Nat.le_refl _) _
      have FRe5 : Hid (wc5.heap[wc1.heap.size]? = some (.cells #[.bool s0, .slice a0 xs0.length c0, .slice b0 ds0.length e0, .bool s1, .slice a1 xs1.length c1, .slice b1 ds1.length e1] 27 (0, 0))) := Lib.hid (by rw [hc5]; exact heap_alloc_new wc1 _)
      have HS5 : Hid (wc5.rangeAt w.heap.size 0 [.bool s0, .slice a0 xs0.length c0, .slice b0 ds0.length e0] ∧ wc5.rangeAt (w.heap.size + 1) 0 [.bool s1, .slice a1 xs1.length c1, .slice b1 ds1.length e1] ∧ wc5.cell? ⟨PB, 0, none⟩ = some (.slice (some ⟨Gn, 0, none⟩) 35 vc)) := Lib.hid ⟨fun j u hu => cell_kept (HS1.out.1 j u hu) hal5, fun j u hu => cell_kept (HS1.out.2.1 j u hu) hal5, cell_kept HS1.out.2.2 hal5⟩
      have BB5 := Lib.hid ((BB1.out).trans (hal5.mono (Below.size BB1.out)))
      have FN5 := Lib.hid ((FN1.out).kept hal5)
      clear hc5
      refine hK.out _ _ ?_ (fun hHeld => ?_)
      · exact HS5.out
      clear hK K
      try simp only [Act.put, List.setIfInBounds_toArray, List.set_cons_zero, List.set_cons_succ, List.getElem_toArray, List.getElem_cons_zero, List.getElem_cons_succ]
      refine wpAnyH_ready (rs := [6]) (by kernel_rfl) (by simp) ?_
      refine AllReadyH.cons (by rfl) (fun K hK => ?_) AllReadyH.nil
      go_simp
      obtain ⟨wc6, hc6⟩ : ∃ wc6, wc6 = wc5.alloc (.cells #[.bool p, .bool q] 4) := ⟨_, rfl⟩
      rw [← hc6]
      have hal6 : Below wc5.heap.size wc5 wc6 := by rw [hc6]; exact (Below.refl _ _).alloc (Nat.le_refl _) _
      have FBo6 : Hid (wc6.heap[wc5.heap.size]? = some (.cells #[.bool p, .bool q] 4 (0, 0))) := Lib.hid (by rw [hc6]; exact heap_alloc_new wc5 _)
      have HS6 : Hid (wc6.rangeAt w.heap.size 0 [.bool s0, .slice a0 xs0.length c0, .slice b0 ds0.length e0] ∧ wc6.rangeAt (w.heap.size + 1) 0 [.bool s1, .slice a1 xs1.length c1, .slice b1 ds1.length e1] ∧ wc6.cell? ⟨PB, 0, none⟩ = some (.slice (some ⟨Gn, 0, none⟩) 35 vc)) := Lib.hid ⟨fun j u hu => cell_kept (HS5.out.1 j u hu) hal6, fun j u hu => cell_kept (HS5.out.2.1 j u hu) hal6, cell_kept HS5.out.2.2 hal6⟩
      have BB6 := Lib.hid ((BB5.out).trans (hal6.mono (Below.size BB5.out)))
      have FN6 := Lib.hid ((FN5.out).kept hal6)
      have FRe6 := Lib.hid (block_kept FRe5.out hal6)
      clear hc6
      refine hK.out _ _ ?_ (fun hHeld => ?_)
      · exact HS6.out
      clear hK K
      try simp only [Act.put, List.setIfInBounds_toArray, List.set_cons_zero, List.set_cons_succ, List.getElem_toArray, List.getElem_cons_zero, List.getElem_cons_succ]
      refine wpAnyH_ready (rs := [10]) (by kernel_rfl) (by simp) ?_
      refine AllReadyH.cons (by rfl) (fun K hK => ?_) AllReadyH.nil
      go_simp
      refine (HCALL.out _ W8.heap.size wc5.heap.size wc1.heap.size BB6.out FN6.out LE1.out FBo6.out FRe6.out).mono ?_
      rintro e wf ⟨rfl, R5⟩
      have HEND := Lib.hid ((HBW8.out.trans (BB6.out.mono HBW8.out.size)).grown R5.g (Nat.le_trans HBW8.out.size (Below.size BB6.out)) (fun k hk => by cases hk; exact Nat.le_trans HBW8.out.size LE1.out))
      have hle := LE1.out
      have HSf : Hid (wf.rangeAt w.heap.size 0 [.bool s0, .slice a0 xs0.length c0, .slice b0 ds0.length e0] ∧ wf.rangeAt (w.heap.size + 1) 0 [.bool s1, .slice a1 xs1.length c1, .slice b1 ds1.length e1] ∧ wf.cell? ⟨PB, 0, none⟩ = some (.slice (some ⟨Gn, 0, none⟩) 35 vc)) := Lib.hid ⟨range_room HS6.out.1 R5.g (by have := HLT.out.1; omega), range_room HS6.out.2.1 R5.g (by have := HLT.out.1; omega), cell_room HS6.out.2.2 R5 (by have := HLT.out.2; omega)⟩
      refine hK.out _ _ ?_ (fun hHeld => ?_)
      · exact HSf.out
      clear hK K
      try simp only [Act.put, List.setIfInBounds_toArray, List.set_cons_zero, List.set_cons_succ, List.getElem_toArray, List.getElem_cons_zero, List.getElem_cons_succ]
      refine wpAnyH_take (i := 11) (v := ?_) (by rfl) (by kernel_rfl) (by kernel_rfl) (by kernel_rfl) (by exact fun _ _ _ h => h) (Or.inl ⟨by rfl, ?_⟩) hHeld ?_
      rotate_left 1
      · intro w' hSw
        (try dsimp only at hSw)
        go_simp
        try with_reducible rfl
      try simp only [Act.put, List.setIfInBounds_toArray, List.set_cons_zero, List.set_cons_succ, List.getElem_toArray, List.getElem_cons_zero, List.getElem_cons_succ]
      refine wpAnyH_take (i := 12) (v := ?_) (by rfl) (by kernel_rfl) (by kernel_rfl) (by kernel_rfl) (by exact fun _ _ _ h => h) (Or.inl ⟨by rfl, ?_⟩) hHeld ?_
      rotate_left 1
      · intro w' hSw
        (try dsimp only at hSw)
        go_simp
        try with_reducible rfl
      try simp only [Act.put, List.setIfInBounds_toArray, List.set_cons_zero, List.set_cons_succ, List.getElem_toArray, List.getElem_cons_zero, List.getElem_cons_succ]
      refine wpAnyH_take (i := 13) (v := ?_) (by rfl) (by kernel_rfl) (by kernel_rfl) (by kernel_rfl) (by exact fun _ _ _ h => h) (Or.inl ⟨by rfl, ?_⟩) hHeld ?_
      rotate_left 1
      · intro w' hSw
        (try dsimp only at hSw)
        go_simp
        try with_reducible rfl
      try simp only [Act.put, List.setIfInBounds_toArray, List.set_cons_zero, List.set_cons_succ, List.getElem_toArray, List.getElem_cons_zero, List.getElem_cons_succ]
      refine wpAnyH_take (i := 14) (v := ?_) (by rfl) (by kernel_rfl) (by kernel_rfl) (by kernel_rfl) (by exact fun _ _ _ h => h) (Or.inl ⟨by rfl, ?_⟩) hHeld ?_
      rotate_left 1
      · intro w' hSw
        (try dsimp only at hSw)
        go_simp
        try with_reducible rfl
      try simp only [Act.put, List.setIfInBounds_toArray, List.set_cons_zero, List.set_cons_succ, List.getElem_toArray, List.getElem_cons_zero, List.getElem_cons_succ]
      refine wpAnyH_take (i := 15) (v := ?_) (by rfl) (by kernel_rfl) (by kernel_rfl) (by kernel_rfl) (by exact fun _ _ _ h => h) (Or.inl ⟨by rfl, ?_⟩) hHeld ?_
      rotate_left 1
      · intro w' hSw
        (try dsimp only at hSw)
        go_simp
        try with_reducible rfl
      try simp only [Act.put, List.setIfInBounds_toArray, List.set_cons_zero, List.set_cons_succ, List.getElem_toArray, List.getElem_cons_zero, List.getElem_cons_succ]
      refine wpAnyH_done (by kernel_rfl) ?_ _
      clear hHeld
      go_wp2_with fail
      go_ret
      exact ⟨rfl, HEND.out⟩
    exact AllReadyH.nil
  refine AllReadyH.cons (by rfl) (fun K hK => ?_) ?_
  · go_simp
    obtain ⟨wc8, hc8⟩ : ∃ wc8, wc8 = (W8.alloc (.cells #[.bool p, .bool q] 4)).drew := ⟨_, rfl⟩
    rw [← hc8]
    have hal8 : Below W8.drew.heap.size W8.drew wc8 := by rw [hc8]; exact ⟨rfl, rfl, rfl, by show W8.heap.size ≤ (W8.alloc _).heap.size; simp, fun k hk => Below.heap_alloc W8 _ k hk⟩
    have FBo8 : Hid (wc8.heap[W8.heap.size]? = some (.cells #[.bool p, .bool q] 4 (0, 0))) := Lib.hid (by rw [hc8]; exact heap_alloc_new W8 _)
    have HS8 : Hid (wc8.rangeAt w.heap.size 0 [.bool s0, .slice a0 xs0.length c0, .slice b0 ds0.length e0] ∧ wc8.rangeAt (w.heap.size + 1) 0 [.bool s1, .slice a1 xs1.length c1, .slice b1 ds1.length e1] ∧ wc8.cell? ⟨PB, 0, none⟩ = some (.slice (some ⟨Gn, 0, none⟩) 35 vc)) := Lib.hid ⟨fun j u hu => cell_kept (HS.out.1 j u hu) hal8, fun j u hu => cell_kept (HS.out.2.1 j u hu) hal8, cell_kept HS.out.2.2 hal8⟩
    have BB8 := Lib.hid ((HD.out).trans (hal8.mono (Below.size HD.out)))
    clear hc8
    refine hK.out _ _ ?_ (fun hHeld => ?_)
    · exact HS8.out
    clear hK K
    try simp only [Act.put, List.setIfInBounds_toArray, List.set_cons_zero, List.set_cons_succ, List.getElem_toArray, List.getElem_cons_zero, List.getElem_cons_succ]
    refine wpAnyH_ready (rs := [0, 9]) (by kernel_rfl) (by simp) ?_
    refine AllReadyH.cons (by rfl) (fun K hK => ?_) ?_
    · go_simp
      refine (HNW.out _).mono ?_
      rintro e wc9 ⟨rfl, hc9⟩
      have hal9 : Below (wc8).heap.size wc8 wc9 := by rw [hc9]; exact (Below.refl _ _).alloc (Nat.le_refl _) _
      have FN9 : Hid (Bench wc9 wc8.heap.size 200 false) := Lib.hid (by rw [hc9]; exact bench_at _ 200)
      have LE9 : Hid (W8.heap.size ≤ wc8.heap.size) := Lib.hid (Below.size BB8.out)
      have HS9 : Hid (wc9.rangeAt w.heap.size 0 [.bool s0, .slice a0 xs0.length c0, .slice b0 ds0.length e0] ∧ wc9.rangeAt (w.heap.size + 1) 0 [.bool s1, .slice a1 xs1.length c1, .slice b1 ds1.length e1] ∧ wc9.cell? ⟨PB, 0, none⟩ = some (.slice (some ⟨Gn, 0, none⟩) 35 vc)) := Lib.hid ⟨fun j u hu => cell_kept (HS8.out.1 j u hu) hal9, fun j u hu => cell_kept (HS8.out.2.1 j u hu) hal9, cell_kept HS8.out.2.2 hal9⟩
      have BB9 := Lib.hid ((BB8.out).trans (hal9.mono (Below.size BB8.out)))
      have FBo9 := Lib.hid (block_kept FBo8.out hal9)
      clear hc9
      refine hK.out _ _ ?_ (fun hHeld => ?_)
      · exact HS9.out
      clear hK K
      try simp only [Act.put, List.setIfInBounds_toArray, List.set_cons_zero, List.set_cons_succ, List.getElem_toArray, List.getElem_cons_zero, List.getElem_cons_succ]
      refine wpAnyH_ready (rs := [9]) (by kernel_rfl) (by simp) ?_
      refine AllReadyH.cons (by rfl) (fun K hK => ?_) AllReadyH.nil
      go_simp
      obtain ⟨wc10, hc10⟩ : ∃ wc10, wc10 = wc9.alloc (.cells #[.bool s0, .slice a0 xs0.length c0, .slice b0 ds0.length e0, .bool s1, .slice a1 xs1.length c1, .slice b1 ds1.length e1] 27) := ⟨_, rfl⟩
      rw [← hc10]
      have hal10 : Below wc9.heap.size wc9 wc10 := by rw [hc10]; exact (Below.refl _ _).alloc (Nat.le_refl _) _
      have FRe10 : Hid (wc10.heap[wc9.heap.size]? = some (.cells #[.bool s0, .slice a0 xs0.length c0, .slice b0 ds0.length e0, .bool s1, .slice a1 xs1.length c1, .slice b1 ds1.length e1] 27 (0, 0))) := Lib.hid (by rw [hc10]; exact heap_alloc_new wc9 _)
      have HS10 : Hid (wc10.rangeAt w.heap.size 0 [.bool s0, .slice a0 xs0.length c0, .slice b0 ds0.length e0] ∧ wc10.rangeAt (w.heap.size + 1) 0 [.bool s1, .slice a1 xs1.length c1, .slice b1 ds1.length e1] ∧ wc10.cell? ⟨PB, 0, none⟩ = some (.slice (some ⟨Gn, 0, none⟩) 35 vc)) := Lib.hid ⟨fun j u hu => cell_kept (HS9.out.1 j u hu) hal10, fun j u hu => cell_kept (HS9.out.2.1 j u hu) hal10, cell_kept HS9.out.2.2 hal10⟩
      have BB10 := Lib.hid ((BB9.out).trans (hal10.mono (Below.size BB9.out)))
      have FN10 := Lib.hid ((FN9.out).kept hal10)
      have FBo10 := Lib.hid (block_kept FBo9.out hal10)
      clear hc10
      refine hK.out _ _ ?_ (fun hHeld => ?_)
      · exact HS10.out
      clear hK K
      try simp only [Act.put, List.setIfInBounds_toArray, List.set_cons_zero, List.set_cons_succ, List.getElem_toArray, List.getElem_cons_zero, List.getElem_cons_succ]
      refine wpAnyH_ready (rs := [10]) (by kernel_rfl) (by simp) ?_
      refine AllReadyH.cons (by rfl) (fun K hK => ?_) AllReadyH.nil
      go_simp
      refine (HCALL.out _ wc8.heap.size W8.heap.size wc9.heap.size BB10.out FN10.out LE9.out FBo10.out FRe10.out).mono ?_
      rintro e wf ⟨rfl, R5⟩
      have HEND := Lib.hid ((HBW8.out.trans (BB10.out.mono HBW8.out.size)).grown R5.g (Nat.le_trans HBW8.out.size (Below.size BB10.out)) (fun k hk => by cases hk; exact Nat.le_trans HBW8.out.size LE9.out))
      have hle := LE9.out
      have HSf : Hid (wf.rangeAt w.heap.size 0 [.bool s0, .slice a0 xs0.length c0, .slice b0 ds0.length e0] ∧ wf.rangeAt (w.heap.size + 1) 0 [.bool s1, .slice a1 xs1.length c1, .slice b1 ds1.length e1] ∧ wf.cell? ⟨PB, 0, none⟩ = some (.slice (some ⟨Gn, 0, none⟩) 35 vc)) := Lib.hid ⟨range_room HS10.out.1 R5.g (by have := HLT.out.1; omega), range_room HS10.out.2.1 R5.g (by have := HLT.out.1; omega), cell_room HS10.out.2.2 R5 (by have := HLT.out.2; omega)⟩
      refine hK.out _ _ ?_ (fun hHeld => ?_)
      · exact HSf.out
      clear hK K
      try simp only [Act.put, List.setIfInBounds_toArray, List.set_cons_zero, List.set_cons_succ, List.getElem_toArray, List.getElem_cons_zero, List.getElem_cons_succ]
      refine wpAnyH_take (i := 11) (v := ?_) (by rfl) (by kernel_rfl) (by kernel_rfl) (by kernel_rfl) (by exact fun _ _ _ h => h) (Or.inl ⟨by rfl, ?_⟩) hHeld ?_
      rotate_left 1
      · intro w' hSw
        (try dsimp only at hSw)
        go_simp
        try with_reducible rfl
      try simp only [Act.put, List.setIfInBounds_toArray, List.set_cons_zero, List.set_cons_succ, List.getElem_toArray, List.getElem_cons_zero, List.getElem_cons_succ]
      refine wpAnyH_take (i := 12) (v := ?_) (by rfl) (by kernel_rfl) (by kernel_rfl) (by kernel_rfl) (by exact fun _ _ _ h => h) (Or.inl ⟨by rfl, ?_⟩) hHeld ?_
      rotate_left 1
      · intro w' hSw
        (try dsimp only at hSw)
        go_simp
        try with_reducible rfl
      try simp only [Act.put, List.setIfInBounds_toArray, List.set_cons_zero, List.set_cons_succ, List.getElem_toArray, List.getElem_cons_zero, List.getElem_cons_succ]
      refine wpAnyH_take (i := 13) (v := ?_) (by rfl) (by kernel_rfl) (by kernel_rfl) (by kernel_rfl) (by exact fun _ _ _ h => h) (Or.inl ⟨by rfl, ?_⟩) hHeld ?_
      rotate_left 1
      · intro w' hSw
        (try dsimp only at hSw)
        go_simp
        try with_reducible rfl
      try simp only [Act.put, List.setIfInBounds_toArray, List.set_cons_zero, List.set_cons_succ, List.getElem_toArray, List.getElem_cons_zero, List.getElem_cons_succ]
      refine wpAnyH_take (i := 14) (v := ?_) (by rfl) (by kernel_rfl) (by kernel_rfl) (by kernel_rfl) (by exact fun _ _ _ h => h) (Or.inl ⟨by rfl, ?_⟩) hHeld ?_
      rotate_left 1
      · intro w' hSw
        (try dsimp only at hSw)
        go_simp
        try with_reducible rfl
      try simp only [Act.put, List.setIfInBounds_toArray, List.set_cons_zero, List.set_cons_succ, List.getElem_toArray, List.getElem_cons_zero, List.getElem_cons_succ]
      refine wpAnyH_take (i := 15) (v := ?_) (by rfl) (by kernel_rfl) (by kernel_rfl) (by kernel_rfl) (by exact fun _ _ _ h => h) (Or.inl ⟨by rfl, ?_⟩) hHeld ?_
      rotate_left 1
      · intro w' hSw
        (try dsimp only at hSw)
        go_simp
        try with_reducible rfl
      try simp only [Act.put, List.setIfInBounds_toArray, List.set_cons_zero, List.set_cons_succ, List.getElem_toArray, List.getElem_cons_zero, List.getElem_cons_succ]
      refine wpAnyH_done (by kernel_rfl) ?_ _
      clear hHeld
      go_wp2_with fail
      go_ret
      exact ⟨rfl, HEND.out⟩
    refine AllReadyH.cons (by rfl) (fun K hK => ?_) ?_
    · go_simp
      obtain ⟨wc12, hc12⟩ : ∃ wc12, wc12 = wc8.alloc (.cells #[.bool s0, .slice a0 xs0.length c0, .slice b0 ds0.length e0, .bool s1, .slice a1 xs1.length c1, .slice b1 ds1.length e1] 27) := ⟨_, rfl⟩
      rw [← hc12]
      have hal12 : Below wc8.heap.size wc8 wc12 := by rw [hc12]; exact (Below.refl _ _).alloc (Nat.le_refl _) _
      have FRe12 : Hid (wc12.heap[wc8.heap.size]? = some (.cells #[.bool s0, .slice a0 xs0.length c0, .slice b0 ds0.length e0, .bool s1, .slice a1 xs1.length c1, .slice b1 ds1.length e1] 27 (0, 0))) := Lib.hid (by rw [hc12]; exact heap_alloc_new wc8 _)
      have HS12 : Hid (wc12.rangeAt w.heap.size 0 [.bool s0, .slice a0 xs0.length c0, .slice b0 ds0.length e0] ∧ wc12.rangeAt (w.heap.size + 1) 0 [.bool s1, .slice a1 xs1.length c1, .slice b1 ds1.length e1] ∧ wc12.cell? ⟨PB, 0, none⟩ = some (.slice (some ⟨Gn, 0, none⟩) 35 vc)) := Lib.hid ⟨fun j u hu => cell_kept (HS8.out.1 j u hu) hal12, fun j u hu => cell_kept (HS8.out.2.1 j u hu) hal12, cell_kept HS8.out.2.2 hal12⟩
      have BB12 := Lib.hid ((BB8.out).trans (hal12.mono (Below.size BB8.out)))
      have FBo12 := Lib.hid (block_kept FBo8.out hal12)
      clear hc12
      refine hK.out _ _ ?_ (fun hHeld => ?_)
      · exact HS12.out
      clear hK K
      try simp only [Act.put, List.setIfInBounds_toArray, List.set_cons_zero, List.set_cons_succ, List.getElem_toArray, List.getElem_cons_zero, List.getElem_cons_succ]
      refine wpAnyH_ready (rs := [0]) (by kernel_rfl) (by simp) ?_
      refine AllReadyH.cons (by rfl) (fun K hK => ?_) AllReadyH.nil
      go_simp
      refine (HNW.out _).mono ?_
      rintro e wc13 ⟨rfl, hc13⟩
      have hal13 : Below (wc12).heap.size wc12 wc13 := by rw [hc13]; exact (Below.refl _ _).alloc (Nat.le_refl _) _
      have FN13 : Hid (Bench wc13 wc12.heap.size 200 false) := Lib.hid (by rw [hc13]; exact bench_at _ 200)
      have LE13 : Hid (W8.heap.size ≤ wc12.heap.size) := Lib.hid (Below.size BB12.out)
      have HS13 : Hid (wc13.rangeAt w.heap.size 0 [.bool s0, .slice a0 xs0.length c0, .slice b0 ds0.length e0] ∧ wc13.rangeAt (w.heap.size + 1) 0 [.bool s1, .slice a1 xs1.length c1, .slice b1 ds1.length e1] ∧ wc13.cell? ⟨PB, 0, none⟩ = some (.slice (some ⟨Gn, 0, none⟩) 35 vc)) := Lib.hid ⟨fun j u hu => cell_kept (HS12.out.1 j u hu) hal13, fun j u hu => cell_kept (HS12.out.2.1 j u hu) hal13, cell_kept HS12.out.2.2 hal13⟩
      have BB13 := Lib.hid ((BB12.out).trans (hal13.mono (Below.size BB12.out)))
      have FBo13 := Lib.hid (block_kept FBo12.out hal13)
      have FRe13 := Lib.hid (block_kept FRe12.out hal13)
      clear hc13
      refine hK.out _ _ ?_ (fun hHeld => ?_)
      · exact HS13.out
      clear hK K
      try simp only [Act.put, List.setIfInBounds_toArray, List.set_cons_zero, List.set_cons_succ, List.getElem_toArray, List.getElem_cons_zero, List.getElem_cons_succ]
      refine wpAnyH_ready (rs := [10]) (by kernel_rfl) (by simp) ?_
      refine AllReadyH.cons (by rfl) (fun K hK => ?_) AllReadyH.nil
      go_simp
      refine (HCALL.out _ wc12.heap.size W8.heap.size wc8.heap.size BB13.out FN13.out LE13.out FBo13.out FRe13.out).mono ?_
      rintro e wf ⟨rfl, R5⟩
      have HEND := Lib.hid ((HBW8.out.trans (BB13.out.mono HBW8.out.size)).grown R5.g (Nat.le_trans HBW8.out.size (Below.size BB13.out)) (fun k hk => by cases hk; exact Nat.le_trans HBW8.out.size LE13.out))
      have hle := LE13.out
      have HSf : Hid (wf.rangeAt w.heap.size 0 [.bool s0, .slice a0 xs0.length c0, .slice b0 ds0.length e0] ∧ wf.rangeAt (w.heap.size + 1) 0 [.bool s1, .slice a1 xs1.length c1, .slice b1 ds1.length e1] ∧ wf.cell? ⟨PB, 0, none⟩ = some (.slice (some ⟨Gn, 0, none⟩) 35 vc)) := Lib.hid ⟨range_room HS13.out.1 R5.g (by have := HLT.out.1; omega), range_room HS13.out.2.1 R5.g (by have := HLT.out.1; omega), cell_room HS13.out.2.2 R5 (by have := HLT.out.2; omega)⟩
      refine hK.out _ _ ?_ (fun hHeld => ?_)
      · exact HSf.out
      clear hK K
      try simp only [Act.put, List.setIfInBounds_toArray, List.set_cons_zero, List.set_cons_succ, List.getElem_toArray, List.getElem_cons_zero, List.getElem_cons_succ]
      refine wpAnyH_take (i := 11) (v := ?_) (by rfl) (by kernel_rfl) (by kernel_rfl) (by kernel_rfl) (by exact fun _ _ _ h => h) (Or.inl ⟨by rfl, ?_⟩) hHeld ?_
      rotate_left 1
      · intro w' hSw
        (try dsimp only at hSw)
        go_simp
        try with_reducible rfl
      try simp only [Act.put, List.setIfInBounds_toArray, List.set_cons_zero, List.set_cons_succ, List.getElem_toArray, List.getElem_cons_zero, List.getElem_cons_succ]
      refine wpAnyH_take (i := 12) (v := ?_) (by rfl) (by kernel_rfl) (by kernel_rfl) (by kernel_rfl) (by exact fun _ _ _ h => h) (Or.inl ⟨by rfl, ?_⟩) hHeld ?_
      rotate_left 1
      · intro w' hSw
        (try dsimp only at hSw)
        go_simp
        try with_reducible rfl
      try simp only [Act.put, List.setIfInBounds_toArray, List.set_cons_zero, List.set_cons_succ, List.getElem_toArray, List.getElem_cons_zero, List.getElem_cons_succ]
      refine wpAnyH_take (i := 13) (v := ?_) (by rfl) (by kernel_rfl) (by kernel_rfl) (by kernel_rfl) (by exact fun _ _ _ h => h) (Or.inl ⟨by rfl, ?_⟩) hHeld ?_
      rotate_left 1
      · intro w' hSw
        (try dsimp only at hSw)
        go_simp
        try with_reducible rfl
      try simp only [Act.put, List.setIfInBounds_toArray, List.set_cons_zero, List.set_cons_succ, List.getElem_toArray, List.getElem_cons_zero, List.getElem_cons_succ]
      refine wpAnyH_take (i := 14) (v := ?_) (by rfl) (by kernel_rfl) (by kernel_rfl) (by kernel_rfl) (by exact fun _ _ _ h => h) (Or.inl ⟨by rfl, ?_⟩) hHeld ?_
      rotate_left 1
      · intro w' hSw
        (try dsimp only at hSw)
        go_simp
        try with_reducible rfl
      try simp only [Act.put, List.setIfInBounds_toArray, List.set_cons_zero, List.set_cons_succ, List.getElem_toArray, List.getElem_cons_zero, List.getElem_cons_succ]
      refine wpAnyH_take (i := 15) (v := ?_) (by rfl) (by kernel_rfl) (by kernel_rfl) (by kernel_rfl) (by exact fun _ _ _ h => h) (Or.inl ⟨by rfl, ?_⟩) hHeld ?_
      rotate_left 1
      · intro w' hSw
        (try dsimp only at hSw)
        go_simp
        try with_reducible rfl
      try simp only [Act.put, List.setIfInBounds_toArray, List.set_cons_zero, List.set_cons_succ, List.getElem_toArray, List.getElem_cons_zero, List.getElem_cons_succ]
      refine wpAnyH_done (by kernel_rfl) ?_ _
      clear hHeld
      go_wp2_with fail
      go_ret
      exact ⟨rfl, HEND.out⟩
    exact AllReadyH.nil
  refine AllReadyH.cons (by rfl) (fun K hK => ?_) ?_
  · go_simp
    obtain ⟨wc15, hc15⟩ : ∃ wc15, wc15 = (W8.alloc (.cells #[.bool s0, .slice a0 xs0.length c0, .slice b0 ds0.length e0, .bool s1, .slice a1 xs1.length c1, .slice b1 ds1.length e1] 27)).drew := ⟨_, rfl⟩
    rw [← hc15]
    have hal15 : Below W8.drew.heap.size W8.drew wc15 := by rw [hc15]; exact ⟨rfl, rfl, rfl, by show W8.heap.size ≤ (W8.alloc _).heap.size; simp, fun k hk => Below.heap_alloc W8 _ k hk⟩
    have FRe15 : Hid (wc15.heap[W8.heap.size]? = some (.cells #[.bool s0, .slice a0 xs0.length c0, .slice b0 ds0.length e0, .bool s1, .slice a1 xs1.length c1, .slice b1 ds1.length e1] 27 (0, 0))) := Lib.hid (by rw [hc15]; exact heap_alloc_new W8 _)
    have HS15 : Hid (wc15.rangeAt w.heap.size 0 [.bool s0, .slice a0 xs0.length c0, .slice b0 ds0.length e0] ∧ wc15.rangeAt (w.heap.size + 1) 0 [.bool s1, .slice a1 xs1.length c1, .slice b1 ds1.length e1] ∧ wc15.cell? ⟨PB, 0, none⟩ = some (.slice (some ⟨Gn, 0, none⟩) 35 vc)) := Lib.hid ⟨fun j u hu => cell_kept (HS.out.1 j u hu) hal15, fun j u hu => cell_kept (HS.out.2.1 j u hu) hal15, cell_kept HS.out.2.2 hal15⟩
    have BB15 := Lib.hid ((HD.out).trans (hal15.mono (Below.size HD.out)))
    clear hc15
    refine hK.out _ _ ?_ (fun hHeld => ?_)
    · exact HS15.out
    clear hK K
    try simp only [Act.put, List.setIfInBounds_toArray, List.set_cons_zero, List.set_cons_succ, List.getElem_toArray, List.getElem_cons_zero, List.getElem_cons_succ]
    refine wpAnyH_ready (rs := [0, 6]) (by kernel_rfl) (by simp) ?_
    refine AllReadyH.cons (by rfl) (fun K hK => ?_) ?_
    · go_simp
      refine (HNW.out _).mono ?_
      rintro e wc16 ⟨rfl, hc16⟩
      have hal16 : Below (wc15).heap.size wc15 wc16 := by rw [hc16]; exact (Below.refl _ _).alloc (Nat.le_refl _) _
      have FN16 : Hid (Bench wc16 wc15.heap.size 200 false) := Lib.hid (by rw [hc16]; exact bench_at _ 200)
      have LE16 : Hid (W8.heap.size ≤ wc15.heap.size) := Lib.hid (Below.size BB15.out)
      have HS16 : Hid (wc16.rangeAt w.heap.size 0 [.bool s0, .slice a0 xs0.length c0, .slice b0 ds0.length e0] ∧ wc16.rangeAt (w.heap.size + 1) 0 [.bool s1, .slice a1 xs1.length c1, .slice b1 ds1.length e1] ∧ wc16.cell? ⟨PB, 0, none⟩ = some (.slice (some ⟨Gn, 0, none⟩) 35 vc)) := Lib.hid ⟨fun j u hu => cell_kept (HS15.out.1 j u hu) hal16, fun j u hu => cell_kept (HS15.out.2.1 j u hu) hal16, cell_kept HS15.out.2.2 hal16⟩
      have BB16 := Lib.hid ((BB15.out).trans (hal16.mono (Below.size BB15.out)))
      have FRe16 := Lib.hid (block_kept FRe15.out hal16)
      clear hc16
      refine hK.out _ _ ?_ (fun hHeld => ?_)
      · exact HS16.out
      clear hK K
      try simp only [Act.put, List.setIfInBounds_toArray, List.set_cons_zero, List.set_cons_succ, List.getElem_toArray, List.getElem_cons_zero, List.getElem_cons_succ]
      refine wpAnyH_ready (rs := [6]) (by kernel_rfl) (by simp) ?_
      refine AllReadyH.cons (by rfl) (fun K hK => ?_) AllReadyH.nil
      go_simp
      obtain ⟨wc17, hc17⟩ : ∃ wc17, wc17 = wc16.alloc (.cells #[.bool p, .bool q] 4) := ⟨_, rfl⟩
      rw [← hc17]
      have hal17 : Below wc16.heap.size wc16 wc17 := by rw [hc17]; exact (Below.refl _ _).alloc (Nat.le_refl _) _
      have FBo17 : Hid (wc17.heap[wc16.heap.size]? = some (.cells #[.bool p, .bool q] 4 (0, 0))) := Lib.hid (by rw [hc17]; exact heap_alloc_new wc16 _)
      have HS17 : Hid (wc17.rangeAt w.heap.size 0 [.bool s0, .slice a0 xs0.length c0, .slice b0 ds0.length e0] ∧ wc17.rangeAt (w.heap.size + 1) 0 [.bool s1, .slice a1 xs1.length c1, .slice b1 ds1.length e1] ∧ wc17.cell? ⟨PB, 0, none⟩ = some (.slice (some ⟨Gn, 0, none⟩) 35 vc)) := Lib.hid ⟨fun j u hu => cell_kept (HS16.out.1 j u hu) hal17, fun j u hu => cell_kept (HS16.out.2.1 j u hu) hal17, cell_kept HS16.out.2.2 hal17⟩
      have BB17 := Lib.hid ((BB16.out).trans (hal17.mono (Below.size BB16.out)))
      have FN17 := Lib.hid ((FN16.out).kept hal17)
      have FRe17 := Lib.hid (block_kept FRe16.out hal17)
      clear hc17
      refine hK.out _ _ ?_ (fun hHeld => ?_)
      · exact HS17.out
      clear hK K
      try simp only [Act.put, List.setIfInBounds_toArray, List.set_cons_zero, List.set_cons_succ, List.getElem_toArray, List.getElem_cons_zero, List.getElem_cons_succ]
      refine wpAnyH_ready (rs := [10]) (by kernel_rfl) (by simp) ?_
      refine AllReadyH.cons (by rfl) (fun K hK => ?_) AllReadyH.nil
      go_simp
      refine (HCALL.out _ wc15.heap.size wc16.heap.size W8.heap.size BB17.out FN17.out LE16.out FBo17.out FRe17.out).mono ?_
      rintro e wf ⟨rfl, R5⟩
      have HEND := Lib.hid ((HBW8.out.trans (BB17.out.mono HBW8.out.size)).grown R5.g (Nat.le_trans HBW8.out.size (Below.size BB17.out)) (fun k hk => by cases hk; exact Nat.le_trans HBW8.out.size LE16.out))
      have hle := LE16.out
      have HSf : Hid (wf.rangeAt w.heap.size 0 [.bool s0, .slice a0 xs0.length c0, .slice b0 ds0.length e0] ∧ wf.rangeAt (w.heap.size + 1) 0 [.bool s1, .slice a1 xs1.length c1, .slice b1 ds1.length e1] ∧ wf.cell? ⟨PB, 0, none⟩ = some (.slice (some ⟨Gn, 0, none⟩) 35 vc)) := Lib.hid ⟨range_room HS17.out.1 R5.g (by have := HLT.out.1; omega), range_room HS17.out.2.1 R5.g (by have := HLT.out.1; omega), cell_room HS17.out.2.2 R5 (by have := HLT.out.2; omega)⟩
      refine hK.out _ _ ?_ (fun hHeld => ?_)
      · exact HSf.out
      clear hK K
      try simp only [Act.put, List.setIfInBounds_toArray, List.set_cons_zero, List.set_cons_succ, List.getElem_toArray, List.getElem_cons_zero, List.getElem_cons_succ]
      refine wpAnyH_take (i := 11) (v := ?_) (by rfl) (by kernel_rfl) (by kernel_rfl) (by kernel_rfl) (by exact fun _ _ _ h => h) (Or.inl ⟨by rfl, ?_⟩) hHeld ?_
      rotate_left 1
      · intro w' hSw
        (try dsimp only at hSw)
        go_simp
        try with_reducible rfl
      try simp only [Act.put, List.setIfInBounds_toArray, List.set_cons_zero, List.set_cons_succ, List.getElem_toArray, List.getElem_cons_zero, List.getElem_cons_succ]
      refine wpAnyH_take (i := 12) (v := ?_) (by rfl) (by kernel_rfl) (by kernel_rfl) (by kernel_rfl) (by exact fun _ _ _ h => h) (Or.inl ⟨by rfl, ?_⟩) hHeld ?_
      rotate_left 1
      · intro w' hSw
        (try dsimp only at hSw)
        go_simp
        try with_reducible rfl
      try simp only [Act.put, List.setIfInBounds_toArray, List.set_cons_zero, List.set_cons_succ, List.getElem_toArray, List.getElem_cons_zero, List.getElem_cons_succ]
      refine wpAnyH_take (i := 13) (v := ?_) (by rfl) (by kernel_rfl) (by kernel_rfl) (by kernel_rfl) (by exact fun _ _ _ h => h) (Or.inl ⟨by rfl, ?_⟩) hHeld ?_
      rotate_left 1
      · intro w' hSw
        (try dsimp only at hSw)
        go_simp
        try with_reducible rfl
      try simp only [Act.put, List.setIfInBounds_toArray, List.set_cons_zero, List.set_cons_succ, List.getElem_toArray, List.getElem_cons_zero, List.getElem_cons_succ]
      refine wpAnyH_take (i := 14) (v := ?_) (by rfl) (by kernel_rfl) (by kernel_rfl) (by kernel_rfl) (by exact fun _ _ _ h => h) (Or.inl ⟨by rfl, ?_⟩) hHeld ?_
      rotate_left 1
      · intro w' hSw
        (try dsimp only at hSw)
        go_simp
        try with_reducible rfl
      try simp only [Act.put, List.setIfInBounds_toArray, List.set_cons_zero, List.set_cons_succ, List.getElem_toArray, List.getElem_cons_zero, List.getElem_cons_succ]
      refine wpAnyH_take (i := 15) (v := ?_) (by rfl) (by kernel_rfl) (by kernel_rfl) (by kernel_rfl) (by exact fun _ _ _ h => h) (Or.inl ⟨by rfl, ?_⟩) hHeld ?_
      rotate_left 1
      · intro w' hSw
        (try dsimp only at hSw)
        go_simp
        try with_reducible rfl
      try simp only [Act.put, List.setIfInBounds_toArray, List.set_cons_zero, List.set_cons_succ, List.getElem_toArray, List.getElem_cons_zero, List.getElem_cons_succ]
      refine wpAnyH_done (by kernel_rfl) ?_ _
      clear hHeld
      go_wp2_with fail
      go_ret
      exact ⟨rfl, HEND.out⟩
    refine AllReadyH.cons (by rfl) (fun K hK => ?_) ?_
    · go_simp
      obtain ⟨wc19, hc19⟩ : ∃ wc19, wc19 = wc15.alloc (.cells #[.bool p, .bool q] 4) := ⟨_, rfl⟩
      rw [← hc19]
      have hal19 : Below wc15.heap.size wc15 wc19 := by rw [hc19]; exact (Below.refl _ _).alloc (Nat.le_refl _) _
      have FBo19 : Hid (wc19.heap[wc15.heap.size]? = some (.cells #[.bool p, .bool q] 4 (0, 0))) := Lib.hid (by rw [hc19]; exact heap_alloc_new wc15 _)
      have HS19 : Hid (wc19.rangeAt w.heap.size 0 [.bool s0, .slice a0 xs0.length c0, .slice b0 ds0.length e0] ∧ wc19.rangeAt (w.heap.size + 1) 0 [.bool s1, .slice a1 xs1.length c1, .slice b1 ds1.length e1] ∧ wc19.cell? ⟨PB, 0, none⟩ = some (.slice (some ⟨Gn, 0, none⟩) 35 vc)) := Lib.hid ⟨fun j u hu => cell_kept (HS15.out.1 j u hu) hal19, fun j u hu => cell_kept (HS15.out.2.1 j u hu) hal19, cell_kept HS15.out.2.2 hal19⟩
      have BB19 := Lib.hid ((BB15.out).trans (hal19.mono (Below.size BB15.out)))
      have FRe19 := Lib.hid (block_kept FRe15.out hal19)
      clear hc19
      refine hK.out _ _ ?_ (fun hHeld => ?_)
      · exact HS19.out
      clear hK K
      try simp only [Act.put, List.setIfInBounds_toArray, List.set_cons_zero, List.set_cons_succ, List.getElem_toArray, List.getElem_cons_zero, List.getElem_cons_succ]
      refine wpAnyH_ready (rs := [0]) (by kernel_rfl) (by simp) ?_
      refine AllReadyH.cons (by rfl) (fun K hK => ?_) AllReadyH.nil
      go_simp
      refine (HNW.out _).mono ?_
      rintro e wc20 ⟨rfl, hc20⟩
      have hal20 : Below (wc19).heap.size wc19 wc20 := by rw [hc20]; exact (Below.refl _ _).alloc (Nat.le_refl _) _
      have FN20 : Hid (Bench wc20 wc19.heap.size 200 false) := Lib.hid (by rw [hc20]; exact bench_at _ 200)
      have LE20 : Hid (W8.heap.size ≤ wc19.heap.size) := Lib.hid (Below.size BB19.out)
      have HS20 : Hid (wc20.rangeAt w.heap.size 0 [.bool s0, .slice a0 xs0.length c0, .slice b0 ds0.length e0] ∧ wc20.rangeAt (w.heap.size + 1) 0 [.bool s1, .slice a1 xs1.length c1, .slice b1 ds1.length e1] ∧ wc20.cell? ⟨PB, 0, none⟩ = some (.slice (some ⟨Gn, 0, none⟩) 35 vc)) := Lib.hid ⟨fun j u hu => cell_kept (HS19.out.1 j u hu) hal20, fun j u hu => cell_kept (HS19.out.2.1 j u hu) hal20, cell_kept HS19.out.2.2 hal20⟩
      have BB20 := Lib.hid ((BB19.out).trans (hal20.mono (Below.size BB19.out)))
      have FBo20 := Lib.hid (block_kept FBo19.out hal20)
      have FRe20 := Lib.hid (block_kept FRe19.out hal20)
      clear hc20
      refine hK.out _ _ ?_ (fun hHeld => ?_)
      · exact HS20.out
      clear hK K
      try simp only [Act.put, List.setIfInBounds_toArray, List.set_cons_zero, List.set_cons_succ, List.getElem_toArray, List.getElem_cons_zero, List.getElem_cons_succ]
      refine wpAnyH_ready (rs := [10]) (by kernel_rfl) (by simp) ?_
      refine AllReadyH.cons (by rfl) (fun K hK => ?_) AllReadyH.nil
      go_simp
      refine (HCALL.out _ wc19.heap.size wc15.heap.size W8.heap.size BB20.out FN20.out LE20.out FBo20.out FRe20.out).mono ?_
      rintro e wf ⟨rfl, R5⟩
      have HEND := Lib.hid ((HBW8.out.trans (BB20.out.mono HBW8.out.size)).grown R5.g (Nat.le_trans HBW8.out.size (Below.size BB20.out)) (fun k hk => by cases hk; exact Nat.le_trans HBW8.out.size LE20.out))
      have hle := LE20.out
      have HSf : Hid (wf.rangeAt w.heap.size 0 [.bool s0, .slice a0 xs0.length c0, .slice b0 ds0.length e0] ∧ wf.rangeAt (w.heap.size + 1) 0 [.bool s1, .slice a1 xs1.length c1, .slice b1 ds1.length e1] ∧ wf.cell? ⟨PB, 0, none⟩ = some (.slice (some ⟨Gn, 0, none⟩) 35 vc)) := Lib.hid ⟨range_room HS20.out.1 R5.g (by have := HLT.out.1; omega), range_room HS20.out.2.1 R5.g (by have := HLT.out.1; omega), cell_room HS20.out.2.2 R5 (by have := HLT.out.2; omega)⟩
      refine hK.out _ _ ?_ (fun hHeld => ?_)
      · exact HSf.out
      clear hK K
      try simp only [Act.put, List.setIfInBounds_toArray, List.set_cons_zero, List.set_cons_succ, List.getElem_toArray, List.getElem_cons_zero, List.getElem_cons_succ]
      refine wpAnyH_take (i := 11) (v := ?_) (by rfl) (by kernel_rfl) (by kernel_rfl) (by kernel_rfl) (by exact fun _ _ _ h => h) (Or.inl ⟨by rfl, ?_⟩) hHeld ?_
      rotate_left 1
      · intro w' hSw
        (try dsimp only at hSw)
        go_simp
        try with_reducible rfl
      try simp only [Act.put, List.setIfInBounds_toArray, List.set_cons_zero, List.set_cons_succ, List.getElem_toArray, List.getElem_cons_zero, List.getElem_cons_succ]
      refine wpAnyH_take (i := 12) (v := ?_) (by rfl) (by kernel_rfl) (by kernel_rfl) (by kernel_rfl) (by exact fun _ _ _ h => h) (Or.inl ⟨by rfl, ?_⟩) hHeld ?_
      rotate_left 1
      · intro w' hSw
        (try dsimp only at hSw)
        go_simp
        try with_reducible rfl
      try simp only [Act.put, List.setIfInBounds_toArray, List.set_cons_zero, List.set_cons_succ, List.getElem_toArray, List.getElem_cons_zero, List.getElem_cons_succ]
      refine wpAnyH_take (i := 13) (v := ?_) (by rfl) (by kernel_rfl) (by kernel_rfl) (by kernel_rfl) (by exact fun _ _ _ h => h) (Or.inl ⟨by rfl, ?_⟩) hHeld ?_
      rotate_left 1
      · intro w' hSw
        (try dsimp only at hSw)
        go_simp
        try with_reducible rfl
      try simp only [Act.put, List.setIfInBounds_toArray, List.set_cons_zero, List.set_cons_succ, List.getElem_toArray, List.getElem_cons_zero, List.getElem_cons_succ]
      refine wpAnyH_take (i := 14) (v := ?_) (by rfl) (by kernel_rfl) (by kernel_rfl) (by kernel_rfl) (by exact fun _ _ _ h => h) (Or.inl ⟨by rfl, ?_⟩) hHeld ?_
      rotate_left 1
      · intro w' hSw
        (try dsimp only at hSw)
        go_simp
        try with_reducible rfl
      try simp only [Act.put, List.setIfInBounds_toArray, List.set_cons_zero, List.set_cons_succ, List.getElem_toArray, List.getElem_cons_zero, List.getElem_cons_succ]
      refine wpAnyH_take (i := 15) (v := ?_) (by rfl) (by kernel_rfl) (by kernel_rfl) (by kernel_rfl) (by exact fun _ _ _ h => h) (Or.inl ⟨by rfl, ?_⟩) hHeld ?_
      rotate_left 1
      · intro w' hSw
        (try dsimp only at hSw)
        go_simp
        try with_reducible rfl
      try simp only [Act.put, List.setIfInBounds_toArray, List.set_cons_zero, List.set_cons_succ, List.getElem_toArray, List.getElem_cons_zero, List.getElem_cons_succ]
      refine wpAnyH_done (by kernel_rfl) ?_ _
      clear hHeld
      go_wp2_with fail
      go_ret
      exact ⟨rfl, HEND.out⟩
    exact AllReadyH.nil
  exact AllReadyH.nil
end Go.Proofs.YthnklohpmcebkaaGreatDoor
