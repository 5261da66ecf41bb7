/- By program out of: LnRRight, LnPRight. -/
import Derived.Test.YtpjeecahaeaajaaGreatDoorMkipboi
import Derived.Test.YtpjeecahaeaajaaGreatDoorMamhhie
set_option linter.unusedVariables false
set_option linter.unusedSimpArgs false
namespace Go.Proofs.YtpjeecahaeaajaaGreatDoor
open Go.RowKit Rep Ln
theorem prev_next {hs : List HM} {i : Nat} {d : HM} (h : hs[i]? = some d) : ∀ j d', i + 1 = j + 1 → hs[j]? = some d' → d'.v = d.v := fun j d' hj hd => by
 obtain rfl : j = i := by omega
 rw [h] at hd; cases hd; rfl
def rightP (s : Bool) (xs ds : List Nat) (hs : List HM) : Bool := rightB s xs ds && rightMs (-1) hs
set_option maxRecDepth 100000 in
set_option maxHeartbeats 16000000 in
theorem RRight_any {w : World} {ps : Bool} {pa pb : Option Addr} {pc pe : Nat} {px pd : List Nat} {a : Option Addr} {cp : Nat} {hs : List HM}
    (hp : HandR w pa pc px pb pe pd) (lp : px.length ≤ 2000000) (le : pd.length ≤ 2000000) (hm : HMs w a hs) (hn : hs.length ≤ 1000) :
    Calls Tryz.prog 9 #[.agg #[.bool ps, .slice pa px.length pc, .slice pb pd.length pe, .slice a hs.length cp]] w (GivesV (.bool (rightP ps px pd hs)) w) := by
 obtain ⟨pl, hpl⟩ : ∃ n, px.length = n := ⟨_, rfl⟩
 obtain ⟨pk, hpk⟩ : ∃ n, pd.length = n := ⟨_, rfl⟩
 obtain ⟨n, hnn⟩ : ∃ n, hs.length = n := ⟨_, rfl⟩
 obtain ⟨W0, hW0⟩ : ∃ W0, W0 = w.alloc (.cells #[.bool ps, .slice pa pl pc, .slice pb pk pe, .slice a n cp] 30) := ⟨_, rfl⟩
 have hB0 : Below w.heap.size w W0 := by rw [hW0]; exact (Below.refl _ _).alloc (Nat.le_refl _) _
 have b0 : W0.heap[w.heap.size]? = some (.cells #[.bool ps, .slice pa pl pc, .slice pb pk pe, .slice a n cp] 30 (0, 0)) := by rw [hW0]; exact heap_alloc_new w _
 have HFC := Lib.hid (right_hand (s := ps) (hp.kept hB0) lp le)
 rw [hpl, hpk] at HFC
 have HB0 := Lib.hid hB0
 have HMM := Lib.hid (And.intro (hm.kept hB0) hnn)
 have HW0 := Lib.hid hW0
 rw [hnn] at hn
 rw [hpl, hpk, hnn]
 have HBX := Lib.hid b0
 obtain ⟨q0, q1, q2, q3, _⟩ := cellsL4 b0
 rw [hW0] at q0 q1 q2 q3
 clear hp lp le hm hB0 b0 hnn hW0 hpl hpk
 go_enter Tryz.func9, Tryz.ntmps9
 go_wp2_with fail
 rw [← HW0.out]
 refine HFC.out.mono ?_
 rintro e w5 ⟨rfl, hb5⟩
 have HB5 := Lib.hid (HB0.out.trans (hb5.mono HB0.out.size))
 have HB05 := Lib.hid hb5
 clear q0 q1 q2 q3 hb5 HFC
 cases hov : rightB ps px pd
 ·have HE : Hid (rightP ps px pd hs = false) := Lib.hid (by unfold rightP; rw [hov]; rfl)
  clear hov
  go_wp2_with fail
  go_ret
  exact GivesV.mk' (by rw [HE.out]; rfl) HB5.out
 ·have HC0 := Lib.hid hov
  clear hov
  go_wp2_with fail
  go_loopw [3] (fun (iv : Value) (wr : World) => ∃ (i : Nat) (p : Int), i ≤ n ∧ iv = .int .i64 (i : Int) ∧ Hid (Below W0.heap.size W0 wr) ∧ Hid (rightMs (-1) hs = rightMs p (hs.drop i) ∧ -1 ≤ p ∧ (i = 0 → p = -1) ∧ ∀ j d, i = j + 1 → hs[j]? = some d → d.v = p)) (fun iv _ => n - (intOf iv).toNat)
  case atStart => exact ⟨0, -1, Nat.zero_le _, rfl, HB05, Lib.hid ⟨rfl, by omega, fun _ => rfl, fun j d hj => by omega⟩⟩
  case round =>
   obtain ⟨i, p, hin, rfl, HB, HT⟩ := hrel
   have HBW := Lib.hid (HB0.out.trans (HB.out.mono HB0.out.size))
   obtain ⟨_, _, _, c3, _⟩ := cellsL4 (stayL HBX.out HB.out)
   by_cases hlt : i < n
   ·obtain ⟨d, g, off, hd, rfl, hh, hlx, hld, hr⟩ := (HMM.out.1.kept HB.out).get (k := i) (by have := HMM.out.2; omega)
    obtain ⟨hR, hp1, hp0, hpd⟩ := HT.out
    rw [rightMs_at hd] at hR
    obtain ⟨v, s, a1, c1, xs, a2, c2, ds⟩ := d
    dsimp only [HM.right, HM.cells] at hh hlx hld hr hR
    have HPR : Hid (∀ j, i = j + 1 → ∃ d0 : HM, hs[j]? = some d0 ∧ d0.v = p ∧ ∀ W, Below wr.heap.size wr W → W.cell? ⟨g, off + j * 4, none⟩ = some (.int .i64 p)) := Lib.hid fun j hj => by
     obtain ⟨d0, g', off', hd0, hg', _, _, _, hr0⟩ := (HMM.out.1.kept HB.out).get (k := j) (by have := HMM.out.2; omega)
     cases hg'
     have e0 := hpd j d0 hj hd0
     exact ⟨d0, hd0, e0, fun W hW => by have := rangeAt_kept hr0 hW (rangeAt_lt hr0 (by simp [HM.cells])) 0 _ rfl; rw [e0] at this; exact this⟩
    obtain ⟨lx, hlxe⟩ : ∃ l, xs.length = l := ⟨_, rfl⟩
    obtain ⟨ld, hlde⟩ : ∃ l, ds.length = l := ⟨_, rfl⟩
    have HLX := Lib.hid hlxe
    have HD := Lib.hid hd
    have hal := (Below.refl wr.heap.size wr).alloc (Nat.le_refl _) (.cells #[.int .i64 v, .bool s, .slice a1 lx c1, .slice a2 ld c2] 51)
    obtain ⟨W6, hW6⟩ : ∃ W6, W6 = wr.alloc (.cells #[.int .i64 v, .bool s, .slice a1 lx c1, .slice a2 ld c2] 51) := ⟨_, rfl⟩
    rw [← hW6] at hal
    have HCR := Lib.hid (right_hand7 (s := s) (hh.kept hal) hlx hld)
    have hr4 : wr.rangeAt g (off + i * 4) [.int .i64 v, .bool s, .slice a1 xs.length c1, .slice a2 ds.length c2] := hr
    rw [hlxe, hlde] at HCR hr4
    have HKM : Hid (W6.heap[wr.heap.size]? = some (.cells #[.int .i64 v, .bool s, .slice a1 lx c1, .slice a2 ld c2] 51 (0, 0))) := Lib.hid (by rw [hW6]; exact heap_alloc_new wr _)
    have HB6 := Lib.hid (HB.out.trans (hal.mono HB.out.size))
    have HW6 := Lib.hid hW6
    have HAL := Lib.hid hal
    have HR := Lib.hid hR
    have HPV := Lib.hid (And.intro hp1 hp0)
    have hii : (i : Int) < (n : Int) := by omega
    have hiw : wrap64 ((i : Int) + 1) = (i : Int) + 1 := IntWalk.wrap64_in _ (by omega)
    clear hd hh hlx hld hr hR hp1 hp0 hpd hlxe hlde hal hW6 HT
    by_cases hv0 : v < 0
    ·have HE : Hid (rightP ps px pd hs = false) := Lib.hid (by unfold rightP; rw [HR.out, decide_eq_false (by have := HPV.out; omega : ¬ p < v)]; simp)
     have HK : Hid (∀ W, Below W6.heap.size W6 W → (fun W => W.cell? ⟨w.heap.size, 3, none⟩ = some (.slice (some ⟨g, off, none⟩) n cp) ∧ W.cell? ⟨wr.heap.size, 0, none⟩ = some (.int .i64 v) ∧ W.cell? ⟨wr.heap.size, 1, none⟩ = some (.bool s) ∧ W.cell? ⟨wr.heap.size, 2, none⟩ = some (.slice a1 lx c1) ∧ W.cell? ⟨wr.heap.size, 3, none⟩ = some (.slice a2 ld c2)) W) := Lib.hid fun W hW => by
      obtain ⟨_, _, _, c3', _⟩ := cellsL4 (stayL (stayL HBX.out HB6.out) hW)
      obtain ⟨m0, m1, m2, m3, _⟩ := cellsL4 (stayL HKM.out hW)
      exact ⟨c3', m0, m1, m2, m3⟩
     clear HPR
     clear HR HPV
     go_wp2_with (first | (refine wpList_val (.agg #[.int .i64 v, .bool s, .slice a1 lx c1, .slice a2 ld c2]) (run_load_op 51 (.tmp 19) (by with_reducible rfl) g (off + i * 4) (by rfl) _ _ hr4 Tryz.underlying51 rfl (by rw [size_mono]; rfl)) (by rfl) ?_) | (with_reducible refine wpList_alloc_agg rfl 51 rfl zMono zero_mono ?_) | (refine wpList_store_new rfl 51 (.tmp 4) (.tmp 20) (by with_reducible rfl) wr zMono #[.int .i64 v, .bool s, .slice a1 lx c1, .slice a2 ld c2] (by rfl) (by rfl) (by rfl) (by rw [size_mono]; rfl) (by rfl) (one_mono ⟨v, s, a1, lx, c1, a2, ld, c2⟩) ?_))
     rw [← HW6.out]
     refine wp_region_held_drew (S := (fun W => W.cell? ⟨w.heap.size, 3, none⟩ = some (.slice (some ⟨g, off, none⟩) n cp) ∧ W.cell? ⟨wr.heap.size, 0, none⟩ = some (.int .i64 v) ∧ W.cell? ⟨wr.heap.size, 1, none⟩ = some (.bool s) ∧ W.cell? ⟨wr.heap.size, 2, none⟩ = some (.slice a1 lx c1) ∧ W.cell? ⟨wr.heap.size, 3, none⟩ = some (.slice a2 ld c2))) (by kernel_rfl) ?_ (fun hHeld => ?_)
     ·exact HK.out _ (below_drew W6)
     refine tkL 0 (v := ?_) ?_ hHeld ?_
     rotate_left 1
     ·intro w' hSw
      (try dsimp only at hSw)
      go_simp
      try with_reducible rfl
     try simp only [Act.put, zA, zB, zC, zD, zE, zF]
     refine tkL 1 (v := ?_) ?_ hHeld ?_
     rotate_left 1
     ·intro w' hSw
      (try dsimp only at hSw)
      go_simp
      try with_reducible rfl
     try simp only [Act.put, zA, zB, zC, zD, zE, zF]
     refine tkL 2 (v := ?_) ?_ hHeld ?_
     rotate_left 1
     ·intro w' hSw
      (try dsimp only at hSw)
      go_simp
      try with_reducible rfl
     try simp only [Act.put, zA, zB, zC, zD, zE, zF]
     refine tkL 3 (v := ?_) ?_ hHeld ?_
     rotate_left 1
     ·intro w' hSw
      (try dsimp only at hSw)
      go_simp
      try with_reducible rfl
     try simp only [Act.put, zA, zB, zC, zD, zE, zF]
     refine tkR 4 hHeld ?_
     try simp only [Act.put, zA, zB, zC, zD, zE, zF]
     refine tkR 5 hHeld ?_
     try simp only [Act.put, zA, zB, zC, zD, zE, zF]
     refine tkR 6 hHeld ?_
     try simp only [Act.put, zA, zB, zC, zD, zE, zF]
     refine tkR 7 hHeld ?_
     try simp only [Act.put, zA, zB, zC, zD, zE, zF]
     refine tkR 8 hHeld ?_
     try simp only [Act.put, zA, zB, zC, zD, zE, zF]
     refine tkR 9 hHeld ?_
     try simp only [Act.put, zA, zB, zC, zD, zE, zF]
     refine tkR 10 hHeld ?_
     try simp only [Act.put, zA, zB, zC, zD, zE, zF]
     refine tkR 11 hHeld ?_
     try simp only [Act.put, zA, zB, zC, zD, zE, zF]
     refine tkR 12 hHeld ?_
     try simp only [Act.put, zA, zB, zC, zD, zE, zF]
     refine tkR 13 hHeld ?_
     try simp only [Act.put, zA, zB, zC, zD, zE, zF]
     refine tkR 14 hHeld ?_
     try simp only [Act.put, zA, zB, zC, zD, zE, zF]
     refine tkR 15 hHeld ?_
     try simp only [Act.put, zA, zB, zC, zD, zE, zF]
     refine tkR 16 hHeld ?_
     try simp only [Act.put, zA, zB, zC, zD, zE, zF]
     refine tkR 17 hHeld ?_
     try simp only [Act.put, zA, zB, zC, zD, zE, zF]
     refine tkL 18 (v := ?_) ?_ hHeld ?_
     rotate_left 1
     ·intro w' hSw
      (try dsimp only at hSw)
      go_simp
      try with_reducible rfl
     try simp only [Act.put, zA, zB, zC, zD, zE, zF]
     refine tkL 19 (v := ?_) ?_ hHeld ?_
     rotate_left 1
     ·intro w' hSw
      (try dsimp only at hSw)
      go_simp
      try with_reducible rfl
     try simp only [Act.put, zA, zB, zC, zD, zE, zF]
     refine tkR 20 hHeld ?_
     try simp only [Act.put, zA, zB, zC, zD, zE, zF]
     refine tkR 21 hHeld ?_
     try simp only [Act.put, zA, zB, zC, zD, zE, zF]
     refine tkR 22 hHeld ?_
     try simp only [Act.put, zA, zB, zC, zD, zE, zF]
     refine tkR 23 hHeld ?_
     try simp only [Act.put, zA, zB, zC, zD, zE, zF]
     refine tkL 24 (v := ?_) ?_ hHeld ?_
     rotate_left 1
     ·intro w' hSw
      (try dsimp only at hSw)
      go_simp
      try with_reducible rfl
     try simp only [Act.put, zA, zB, zC, zD, zE, zF]
     refine tkL 25 (v := ?_) ?_ hHeld ?_
     rotate_left 1
     ·intro w' hSw
      (try dsimp only at hSw)
      go_simp
      try with_reducible rfl
     try simp only [Act.put, zA, zB, zC, zD, zE, zF]
     refine tkR 26 hHeld ?_
     try simp only [Act.put, zA, zB, zC, zD, zE, zF]
     refine tkR 27 hHeld ?_
     try simp only [Act.put, zA, zB, zC, zD, zE, zF]
     refine tkR 28 hHeld ?_
     try simp only [Act.put, zA, zB, zC, zD, zE, zF]
     refine tkR 29 hHeld ?_
     try simp only [Act.put, zA, zB, zC, zD, zE, zF]
     refine tkR 30 hHeld ?_
     try simp only [Act.put, zA, zB, zC, zD, zE, zF]
     refine tkR 31 hHeld ?_
     try simp only [Act.put, zA, zB, zC, zD, zE, zF]
     refine tkL 32 (v := ?_) ?_ hHeld ?_
     rotate_left 1
     ·intro w' hSw
      (try dsimp only at hSw)
      go_simp
      try with_reducible rfl
     try simp only [Act.put, zA, zB, zC, zD, zE, zF]
     refine wpAnyH_done (by kernel_rfl) ?_ _
     clear hHeld
     go_wp2_with fail
     go_ret
     exact GivesV.mk' (by rw [HE.out]; rfl) (HB0.out.trans (HB6.out.drew.mono HB0.out.size))
    ·by_cases hpv : p < v
     ·by_cases hi0 : i = 0
      ·subst hi0
       rw [Nat.zero_mul, Nat.add_zero] at hr4
       have hii : (0 : Int) < (n : Int) := by omega
       have HK : Hid (∀ W, Below W6.heap.size W6 W → (fun W => W.cell? ⟨w.heap.size, 3, none⟩ = some (.slice (some ⟨g, off, none⟩) n cp) ∧ W.cell? ⟨wr.heap.size, 0, none⟩ = some (.int .i64 v) ∧ W.cell? ⟨wr.heap.size, 1, none⟩ = some (.bool s) ∧ W.cell? ⟨wr.heap.size, 2, none⟩ = some (.slice a1 lx c1) ∧ W.cell? ⟨wr.heap.size, 3, none⟩ = some (.slice a2 ld c2)) W) := Lib.hid fun W hW => by
        obtain ⟨_, _, _, c3', _⟩ := cellsL4 (stayL (stayL HBX.out HB6.out) hW)
        obtain ⟨m0, m1, m2, m3, _⟩ := cellsL4 (stayL HKM.out hW)
        exact ⟨c3', m0, m1, m2, m3⟩
       clear HPR
       cases hrt : rightB s xs ds
       ·have HE : Hid (rightP ps px pd hs = false) := Lib.hid (by unfold rightP; rw [HR.out, hrt]; simp)
        rw [hrt] at HCR
        clear hrt
        clear HR HPV
        go_wp2_with (first | (refine wpList_val (.agg #[.int .i64 v, .bool s, .slice a1 lx c1, .slice a2 ld c2]) (run_load_op 51 (.tmp 19) (by with_reducible rfl) g (off) (by rfl) _ _ hr4 Tryz.underlying51 rfl (by rw [size_mono]; rfl)) (by rfl) ?_) | (with_reducible refine wpList_alloc_agg rfl 51 rfl zMono zero_mono ?_) | (refine wpList_store_new rfl 51 (.tmp 4) (.tmp 20) (by with_reducible rfl) wr zMono #[.int .i64 v, .bool s, .slice a1 lx c1, .slice a2 ld c2] (by rfl) (by rfl) (by rfl) (by rw [size_mono]; rfl) (by rfl) (one_mono ⟨v, s, a1, lx, c1, a2, ld, c2⟩) ?_))
        rw [← HW6.out]
        refine wp_region_held_drew (S := (fun W => W.cell? ⟨w.heap.size, 3, none⟩ = some (.slice (some ⟨g, off, none⟩) n cp) ∧ W.cell? ⟨wr.heap.size, 0, none⟩ = some (.int .i64 v) ∧ W.cell? ⟨wr.heap.size, 1, none⟩ = some (.bool s) ∧ W.cell? ⟨wr.heap.size, 2, none⟩ = some (.slice a1 lx c1) ∧ W.cell? ⟨wr.heap.size, 3, none⟩ = some (.slice a2 ld c2))) (by kernel_rfl) ?_ (fun hHeld => ?_)
        ·exact HK.out _ (below_drew W6)
        refine tkL 0 (v := ?_) ?_ hHeld ?_
        rotate_left 1
        ·intro w' hSw
         (try dsimp only at hSw)
         go_simp
         try with_reducible rfl
        try simp only [Act.put, zA, zB, zC, zD, zE, zF]
        refine tkL 1 (v := ?_) ?_ hHeld ?_
        rotate_left 1
        ·intro w' hSw
         (try dsimp only at hSw)
         go_simp
         try with_reducible rfl
        try simp only [Act.put, zA, zB, zC, zD, zE, zF]
        refine tkL 2 (v := .bool false) ?_ hHeld ?_
        ·intro w' hSw
         go_simp
         try first | done | omega | exact hv0 | (simp; omega)
        try simp only [Act.put, zA, zB, zC, zD, zE, zF]
        refine tkL 3 (v := ?_) ?_ hHeld ?_
        rotate_left 1
        ·intro w' hSw
         (try dsimp only at hSw)
         go_simp
         try with_reducible rfl
        try simp only [Act.put, zA, zB, zC, zD, zE, zF]
        refine tkL 4 (v := ?_) ?_ hHeld ?_
        rotate_left 1
        ·intro w' hSw
         (try dsimp only at hSw)
         go_simp
         try with_reducible rfl
        try simp only [Act.put, zA, zB, zC, zD, zE, zF]
        refine tkL 5 (v := ?_) ?_ hHeld ?_
        rotate_left 1
        ·intro w' hSw
         (try dsimp only at hSw)
         go_simp
         try with_reducible rfl
        try simp only [Act.put, zA, zB, zC, zD, zE, zF]
        refine tkL 6 (v := ?_) ?_ hHeld ?_
        rotate_left 1
        ·intro w' hSw
         (try dsimp only at hSw)
         go_simp
         try with_reducible rfl
        try simp only [Act.put, zA, zB, zC, zD, zE, zF]
        refine tkR 7 hHeld ?_
        try simp only [Act.put, zA, zB, zC, zD, zE, zF]
        refine tkR 8 hHeld ?_
        try simp only [Act.put, zA, zB, zC, zD, zE, zF]
        refine tkR 9 hHeld ?_
        try simp only [Act.put, zA, zB, zC, zD, zE, zF]
        refine tkR 10 hHeld ?_
        try simp only [Act.put, zA, zB, zC, zD, zE, zF]
        refine tkR 11 hHeld ?_
        try simp only [Act.put, zA, zB, zC, zD, zE, zF]
        refine tkR 12 hHeld ?_
        try simp only [Act.put, zA, zB, zC, zD, zE, zF]
        refine tkR 13 hHeld ?_
        try simp only [Act.put, zA, zB, zC, zD, zE, zF]
        refine tkR 14 hHeld ?_
        try simp only [Act.put, zA, zB, zC, zD, zE, zF]
        refine tkR 15 hHeld ?_
        try simp only [Act.put, zA, zB, zC, zD, zE, zF]
        refine tkR 16 hHeld ?_
        try simp only [Act.put, zA, zB, zC, zD, zE, zF]
        refine tkL 17 (v := ?_) ?_ hHeld ?_
        rotate_left 1
        ·intro w' hSw
         (try dsimp only at hSw)
         go_simp
         try with_reducible rfl
        try simp only [Act.put, zA, zB, zC, zD, zE, zF]
        refine tkL 18 (v := ?_) ?_ hHeld ?_
        rotate_left 1
        ·intro w' hSw
         (try dsimp only at hSw)
         go_simp
         try with_reducible rfl
        try simp only [Act.put, zA, zB, zC, zD, zE, zF]
        refine tkL 19 (v := ?_) ?_ hHeld ?_
        rotate_left 1
        ·intro w' hSw
         (try dsimp only at hSw)
         go_simp
         try with_reducible rfl
        try simp only [Act.put, zA, zB, zC, zD, zE, zF]
        refine tkL 20 (v := ?_) ?_ hHeld ?_
        rotate_left 1
        ·intro w' hSw
         (try dsimp only at hSw)
         go_simp
         try with_reducible rfl
        try simp only [Act.put, zA, zB, zC, zD, zE, zF]
        refine tkL 21 (v := ?_) ?_ hHeld ?_
        rotate_left 1
        ·intro w' hSw
         (try dsimp only at hSw)
         go_simp
         try with_reducible rfl
        try simp only [Act.put, zA, zB, zC, zD, zE, zF]
        refine rdy [22] ?_
        refine AllReadyH.cons (by rfl) (fun K hK => ?_) AllReadyH.nil
        go_simp
        refine HCR.out.mono ?_
        rintro e w7 ⟨rfl, hb7⟩
        have HB7 := Lib.hid (HB6.out.trans (hb7.out.mono HB6.out.size))
        have HS7 := Lib.hid (HK.out _ hb7.out)
        clear hb7
        refine hK.out _ _ ?_ (fun hHeld => ?_)
        ·exact HS7.out
        clear hK K
        try simp only [Act.put, zA, zB, zC, zD, zE, zF]
        refine tkL 23 (v := ?_) ?_ hHeld ?_
        rotate_left 1
        ·intro w' hSw
         (try dsimp only at hSw)
         go_simp
         try with_reducible rfl
        try simp only [Act.put, zA, zB, zC, zD, zE, zF]
        refine tkL 24 (v := ?_) ?_ hHeld ?_
        rotate_left 1
        ·intro w' hSw
         (try dsimp only at hSw)
         go_simp
         try with_reducible rfl
        try simp only [Act.put, zA, zB, zC, zD, zE, zF]
        refine tkL 25 (v := ?_) ?_ hHeld ?_
        rotate_left 1
        ·intro w' hSw
         (try dsimp only at hSw)
         go_simp
         try with_reducible rfl
        try simp only [Act.put, zA, zB, zC, zD, zE, zF]
        refine tkR 26 hHeld ?_
        try simp only [Act.put, zA, zB, zC, zD, zE, zF]
        refine tkR 27 hHeld ?_
        try simp only [Act.put, zA, zB, zC, zD, zE, zF]
        refine tkR 28 hHeld ?_
        try simp only [Act.put, zA, zB, zC, zD, zE, zF]
        refine tkR 29 hHeld ?_
        try simp only [Act.put, zA, zB, zC, zD, zE, zF]
        refine tkR 30 hHeld ?_
        try simp only [Act.put, zA, zB, zC, zD, zE, zF]
        refine tkR 31 hHeld ?_
        try simp only [Act.put, zA, zB, zC, zD, zE, zF]
        refine tkL 32 (v := ?_) ?_ hHeld ?_
        rotate_left 1
        ·intro w' hSw
         (try dsimp only at hSw)
         go_simp
         try with_reducible rfl
        try simp only [Act.put, zA, zB, zC, zD, zE, zF]
        refine wpAnyH_done (by kernel_rfl) ?_ _
        clear hHeld HS7
        go_wp2_with fail
        go_ret
        exact GivesV.mk' (by rw [HE.out]; rfl) (HB0.out.trans (HB7.out.mono HB0.out.size))
       ·by_cases hx0 : lx = 0
        ·have HE : Hid (rightP ps px pd hs = false) := Lib.hid (by unfold rightP; rw [HR.out, HLX.out, decide_eq_false (fun h : lx ≠ 0 => h hx0)]; simp)
         have hz : ((lx : Int) == 0) = true := by simpa using hx0
         rw [hrt] at HCR
         clear hrt hx0
         clear HR HPV
         go_wp2_with (first | (refine wpList_val (.agg #[.int .i64 v, .bool s, .slice a1 lx c1, .slice a2 ld c2]) (run_load_op 51 (.tmp 19) (by with_reducible rfl) g (off) (by rfl) _ _ hr4 Tryz.underlying51 rfl (by rw [size_mono]; rfl)) (by rfl) ?_) | (with_reducible refine wpList_alloc_agg rfl 51 rfl zMono zero_mono ?_) | (refine wpList_store_new rfl 51 (.tmp 4) (.tmp 20) (by with_reducible rfl) wr zMono #[.int .i64 v, .bool s, .slice a1 lx c1, .slice a2 ld c2] (by rfl) (by rfl) (by rfl) (by rw [size_mono]; rfl) (by rfl) (one_mono ⟨v, s, a1, lx, c1, a2, ld, c2⟩) ?_))
         rw [← HW6.out]
         refine wp_region_held_drew (S := (fun W => W.cell? ⟨w.heap.size, 3, none⟩ = some (.slice (some ⟨g, off, none⟩) n cp) ∧ W.cell? ⟨wr.heap.size, 0, none⟩ = some (.int .i64 v) ∧ W.cell? ⟨wr.heap.size, 1, none⟩ = some (.bool s) ∧ W.cell? ⟨wr.heap.size, 2, none⟩ = some (.slice a1 lx c1) ∧ W.cell? ⟨wr.heap.size, 3, none⟩ = some (.slice a2 ld c2))) (by kernel_rfl) ?_ (fun hHeld => ?_)
         ·exact HK.out _ (below_drew W6)
         refine tkL 0 (v := ?_) ?_ hHeld ?_
         rotate_left 1
         ·intro w' hSw
          (try dsimp only at hSw)
          go_simp
          try with_reducible rfl
         try simp only [Act.put, zA, zB, zC, zD, zE, zF]
         refine tkL 1 (v := ?_) ?_ hHeld ?_
         rotate_left 1
         ·intro w' hSw
          (try dsimp only at hSw)
          go_simp
          try with_reducible rfl
         try simp only [Act.put, zA, zB, zC, zD, zE, zF]
         refine tkL 2 (v := .bool false) ?_ hHeld ?_
         ·intro w' hSw
          go_simp
          try first | done | omega | exact hv0 | (simp; omega)
         try simp only [Act.put, zA, zB, zC, zD, zE, zF]
         refine tkL 3 (v := ?_) ?_ hHeld ?_
         rotate_left 1
         ·intro w' hSw
          (try dsimp only at hSw)
          go_simp
          try with_reducible rfl
         try simp only [Act.put, zA, zB, zC, zD, zE, zF]
         refine tkL 4 (v := ?_) ?_ hHeld ?_
         rotate_left 1
         ·intro w' hSw
          (try dsimp only at hSw)
          go_simp
          try with_reducible rfl
         try simp only [Act.put, zA, zB, zC, zD, zE, zF]
         refine tkL 5 (v := ?_) ?_ hHeld ?_
         rotate_left 1
         ·intro w' hSw
          (try dsimp only at hSw)
          go_simp
          try with_reducible rfl
         try simp only [Act.put, zA, zB, zC, zD, zE, zF]
         refine tkL 6 (v := ?_) ?_ hHeld ?_
         rotate_left 1
         ·intro w' hSw
          (try dsimp only at hSw)
          go_simp
          try with_reducible rfl
         try simp only [Act.put, zA, zB, zC, zD, zE, zF]
         refine tkR 7 hHeld ?_
         try simp only [Act.put, zA, zB, zC, zD, zE, zF]
         refine tkR 8 hHeld ?_
         try simp only [Act.put, zA, zB, zC, zD, zE, zF]
         refine tkR 9 hHeld ?_
         try simp only [Act.put, zA, zB, zC, zD, zE, zF]
         refine tkR 10 hHeld ?_
         try simp only [Act.put, zA, zB, zC, zD, zE, zF]
         refine tkR 11 hHeld ?_
         try simp only [Act.put, zA, zB, zC, zD, zE, zF]
         refine tkR 12 hHeld ?_
         try simp only [Act.put, zA, zB, zC, zD, zE, zF]
         refine tkR 13 hHeld ?_
         try simp only [Act.put, zA, zB, zC, zD, zE, zF]
         refine tkR 14 hHeld ?_
         try simp only [Act.put, zA, zB, zC, zD, zE, zF]
         refine tkR 15 hHeld ?_
         try simp only [Act.put, zA, zB, zC, zD, zE, zF]
         refine tkR 16 hHeld ?_
         try simp only [Act.put, zA, zB, zC, zD, zE, zF]
         refine tkL 17 (v := ?_) ?_ hHeld ?_
         rotate_left 1
         ·intro w' hSw
          (try dsimp only at hSw)
          go_simp
          try with_reducible rfl
         try simp only [Act.put, zA, zB, zC, zD, zE, zF]
         refine tkL 18 (v := ?_) ?_ hHeld ?_
         rotate_left 1
         ·intro w' hSw
          (try dsimp only at hSw)
          go_simp
          try with_reducible rfl
         try simp only [Act.put, zA, zB, zC, zD, zE, zF]
         refine tkL 19 (v := ?_) ?_ hHeld ?_
         rotate_left 1
         ·intro w' hSw
          (try dsimp only at hSw)
          go_simp
          try with_reducible rfl
         try simp only [Act.put, zA, zB, zC, zD, zE, zF]
         refine tkL 20 (v := ?_) ?_ hHeld ?_
         rotate_left 1
         ·intro w' hSw
          (try dsimp only at hSw)
          go_simp
          try with_reducible rfl
         try simp only [Act.put, zA, zB, zC, zD, zE, zF]
         refine tkL 21 (v := ?_) ?_ hHeld ?_
         rotate_left 1
         ·intro w' hSw
          (try dsimp only at hSw)
          go_simp
          try with_reducible rfl
         try simp only [Act.put, zA, zB, zC, zD, zE, zF]
         refine rdy [22] ?_
         refine AllReadyH.cons (by rfl) (fun K hK => ?_) AllReadyH.nil
         go_simp
         refine HCR.out.mono ?_
         rintro e w7 ⟨rfl, hb7⟩
         have HB7 := Lib.hid (HB6.out.trans (hb7.out.mono HB6.out.size))
         have HS7 := Lib.hid (HK.out _ hb7.out)
         clear hb7
         refine hK.out _ _ ?_ (fun hHeld => ?_)
         ·exact HS7.out
         clear hK K
         try simp only [Act.put, zA, zB, zC, zD, zE, zF]
         refine tkL 23 (v := ?_) ?_ hHeld ?_
         rotate_left 1
         ·intro w' hSw
          (try dsimp only at hSw)
          go_simp
          try with_reducible rfl
         try simp only [Act.put, zA, zB, zC, zD, zE, zF]
         refine tkL 24 (v := ?_) ?_ hHeld ?_
         rotate_left 1
         ·intro w' hSw
          (try dsimp only at hSw)
          go_simp
          try with_reducible rfl
         try simp only [Act.put, zA, zB, zC, zD, zE, zF]
         refine tkL 25 (v := ?_) ?_ hHeld ?_
         rotate_left 1
         ·intro w' hSw
          (try dsimp only at hSw)
          go_simp
          try with_reducible rfl
         try simp only [Act.put, zA, zB, zC, zD, zE, zF]
         refine tkL 26 (v := ?_) ?_ hHeld ?_
         rotate_left 1
         ·intro w' hSw
          (try dsimp only at hSw)
          go_simp
          try with_reducible rfl
         try simp only [Act.put, zA, zB, zC, zD, zE, zF]
         refine tkL 27 (v := ?_) ?_ hHeld ?_
         rotate_left 1
         ·intro w' hSw
          (try dsimp only at hSw)
          go_simp
          try with_reducible rfl
         try simp only [Act.put, zA, zB, zC, zD, zE, zF]
         refine tkL 28 (v := ?_) ?_ hHeld ?_
         rotate_left 1
         ·intro w' hSw
          (try dsimp only at hSw)
          go_simp
          try with_reducible rfl
         try simp only [Act.put, zA, zB, zC, zD, zE, zF]
         refine tkL 29 (v := ?_) ?_ hHeld ?_
         rotate_left 1
         ·intro w' hSw
          (try dsimp only at hSw)
          go_simp
          try with_reducible rfl
         try simp only [Act.put, zA, zB, zC, zD, zE, zF]
         refine tkL 30 (v := ?_) ?_ hHeld ?_
         rotate_left 1
         ·intro w' hSw
          (try dsimp only at hSw)
          go_simp
          try with_reducible rfl
         try simp only [Act.put, zA, zB, zC, zD, zE, zF]
         refine tkL 31 (v := .bool true) ?_ hHeld ?_
         ·intro w' hSw
          go_simp
          try first | done | omega | exact hv0 | (simp; omega)
         try simp only [Act.put, zA, zB, zC, zD, zE, zF]
         refine tkL 32 (v := ?_) ?_ hHeld ?_
         rotate_left 1
         ·intro w' hSw
          (try dsimp only at hSw)
          go_simp
          try with_reducible rfl
         try simp only [Act.put, zA, zB, zC, zD, zE, zF]
         refine wpAnyH_done (by kernel_rfl) ?_ _
         clear hHeld HS7
         go_wp2_with fail
         go_ret
         exact GivesV.mk' (by rw [HE.out]; rfl) (HB0.out.trans (HB7.out.mono HB0.out.size))
        ·have HT : Hid (rightMs (-1) hs = rightMs v (hs.drop 1) ∧ -1 ≤ v ∧ (1 = 0 → v = -1) ∧ ∀ j d, 1 = j + 1 → hs[j]? = some d → d.v = v) := Lib.hid ⟨(by rw [HR.out, HLX.out, hrt, decide_eq_true hpv, decide_eq_true (show lx ≠ 0 from hx0)]; simp), (by have := HPV.out; omega), (by omega), prev_next HD.out⟩
         have hz : ((lx : Int) == 0) = false := by simpa using hx0
         rw [hrt] at HCR
         clear hrt hx0
         clear HR HPV
         go_wp2_with (first | (refine wpList_val (.agg #[.int .i64 v, .bool s, .slice a1 lx c1, .slice a2 ld c2]) (run_load_op 51 (.tmp 19) (by with_reducible rfl) g (off) (by rfl) _ _ hr4 Tryz.underlying51 rfl (by rw [size_mono]; rfl)) (by rfl) ?_) | (with_reducible refine wpList_alloc_agg rfl 51 rfl zMono zero_mono ?_) | (refine wpList_store_new rfl 51 (.tmp 4) (.tmp 20) (by with_reducible rfl) wr zMono #[.int .i64 v, .bool s, .slice a1 lx c1, .slice a2 ld c2] (by rfl) (by rfl) (by rfl) (by rw [size_mono]; rfl) (by rfl) (one_mono ⟨v, s, a1, lx, c1, a2, ld, c2⟩) ?_))
         rw [← HW6.out]
         refine wp_region_held_drew (S := (fun W => W.cell? ⟨w.heap.size, 3, none⟩ = some (.slice (some ⟨g, off, none⟩) n cp) ∧ W.cell? ⟨wr.heap.size, 0, none⟩ = some (.int .i64 v) ∧ W.cell? ⟨wr.heap.size, 1, none⟩ = some (.bool s) ∧ W.cell? ⟨wr.heap.size, 2, none⟩ = some (.slice a1 lx c1) ∧ W.cell? ⟨wr.heap.size, 3, none⟩ = some (.slice a2 ld c2))) (by kernel_rfl) ?_ (fun hHeld => ?_)
         ·exact HK.out _ (below_drew W6)
         refine tkL 0 (v := ?_) ?_ hHeld ?_
         rotate_left 1
         ·intro w' hSw
          (try dsimp only at hSw)
          go_simp
          try with_reducible rfl
         try simp only [Act.put, zA, zB, zC, zD, zE, zF]
         refine tkL 1 (v := ?_) ?_ hHeld ?_
         rotate_left 1
         ·intro w' hSw
          (try dsimp only at hSw)
          go_simp
          try with_reducible rfl
         try simp only [Act.put, zA, zB, zC, zD, zE, zF]
         refine tkL 2 (v := .bool false) ?_ hHeld ?_
         ·intro w' hSw
          go_simp
          try first | done | omega | exact hv0 | (simp; omega)
         try simp only [Act.put, zA, zB, zC, zD, zE, zF]
         refine tkL 3 (v := ?_) ?_ hHeld ?_
         rotate_left 1
         ·intro w' hSw
          (try dsimp only at hSw)
          go_simp
          try with_reducible rfl
         try simp only [Act.put, zA, zB, zC, zD, zE, zF]
         refine tkL 4 (v := ?_) ?_ hHeld ?_
         rotate_left 1
         ·intro w' hSw
          (try dsimp only at hSw)
          go_simp
          try with_reducible rfl
         try simp only [Act.put, zA, zB, zC, zD, zE, zF]
         refine tkL 5 (v := ?_) ?_ hHeld ?_
         rotate_left 1
         ·intro w' hSw
          (try dsimp only at hSw)
          go_simp
          try with_reducible rfl
         try simp only [Act.put, zA, zB, zC, zD, zE, zF]
         refine tkL 6 (v := ?_) ?_ hHeld ?_
         rotate_left 1
         ·intro w' hSw
          (try dsimp only at hSw)
          go_simp
          try with_reducible rfl
         try simp only [Act.put, zA, zB, zC, zD, zE, zF]
         refine tkR 7 hHeld ?_
         try simp only [Act.put, zA, zB, zC, zD, zE, zF]
         refine tkR 8 hHeld ?_
         try simp only [Act.put, zA, zB, zC, zD, zE, zF]
         refine tkR 9 hHeld ?_
         try simp only [Act.put, zA, zB, zC, zD, zE, zF]
         refine tkR 10 hHeld ?_
         try simp only [Act.put, zA, zB, zC, zD, zE, zF]
         refine tkR 11 hHeld ?_
         try simp only [Act.put, zA, zB, zC, zD, zE, zF]
         refine tkR 12 hHeld ?_
         try simp only [Act.put, zA, zB, zC, zD, zE, zF]
         refine tkR 13 hHeld ?_
         try simp only [Act.put, zA, zB, zC, zD, zE, zF]
         refine tkR 14 hHeld ?_
         try simp only [Act.put, zA, zB, zC, zD, zE, zF]
         refine tkR 15 hHeld ?_
         try simp only [Act.put, zA, zB, zC, zD, zE, zF]
         refine tkR 16 hHeld ?_
         try simp only [Act.put, zA, zB, zC, zD, zE, zF]
         refine tkL 17 (v := ?_) ?_ hHeld ?_
         rotate_left 1
         ·intro w' hSw
          (try dsimp only at hSw)
          go_simp
          try with_reducible rfl
         try simp only [Act.put, zA, zB, zC, zD, zE, zF]
         refine tkL 18 (v := ?_) ?_ hHeld ?_
         rotate_left 1
         ·intro w' hSw
          (try dsimp only at hSw)
          go_simp
          try with_reducible rfl
         try simp only [Act.put, zA, zB, zC, zD, zE, zF]
         refine tkL 19 (v := ?_) ?_ hHeld ?_
         rotate_left 1
         ·intro w' hSw
          (try dsimp only at hSw)
          go_simp
          try with_reducible rfl
         try simp only [Act.put, zA, zB, zC, zD, zE, zF]
         refine tkL 20 (v := ?_) ?_ hHeld ?_
         rotate_left 1
         ·intro w' hSw
          (try dsimp only at hSw)
          go_simp
          try with_reducible rfl
         try simp only [Act.put, zA, zB, zC, zD, zE, zF]
         refine tkL 21 (v := ?_) ?_ hHeld ?_
         rotate_left 1
         ·intro w' hSw
          (try dsimp only at hSw)
          go_simp
          try with_reducible rfl
         try simp only [Act.put, zA, zB, zC, zD, zE, zF]
         refine rdy [22] ?_
         refine AllReadyH.cons (by rfl) (fun K hK => ?_) AllReadyH.nil
         go_simp
         refine HCR.out.mono ?_
         rintro e w7 ⟨rfl, hb7⟩
         have HB7 := Lib.hid (HB6.out.trans (hb7.out.mono HB6.out.size))
         have HS7 := Lib.hid (HK.out _ hb7.out)
         clear hb7
         refine hK.out _ _ ?_ (fun hHeld => ?_)
         ·exact HS7.out
         clear hK K
         try simp only [Act.put, zA, zB, zC, zD, zE, zF]
         refine tkL 23 (v := ?_) ?_ hHeld ?_
         rotate_left 1
         ·intro w' hSw
          (try dsimp only at hSw)
          go_simp
          try with_reducible rfl
         try simp only [Act.put, zA, zB, zC, zD, zE, zF]
         refine tkL 24 (v := ?_) ?_ hHeld ?_
         rotate_left 1
         ·intro w' hSw
          (try dsimp only at hSw)
          go_simp
          try with_reducible rfl
         try simp only [Act.put, zA, zB, zC, zD, zE, zF]
         refine tkL 25 (v := ?_) ?_ hHeld ?_
         rotate_left 1
         ·intro w' hSw
          (try dsimp only at hSw)
          go_simp
          try with_reducible rfl
         try simp only [Act.put, zA, zB, zC, zD, zE, zF]
         refine tkL 26 (v := ?_) ?_ hHeld ?_
         rotate_left 1
         ·intro w' hSw
          (try dsimp only at hSw)
          go_simp
          try with_reducible rfl
         try simp only [Act.put, zA, zB, zC, zD, zE, zF]
         refine tkL 27 (v := ?_) ?_ hHeld ?_
         rotate_left 1
         ·intro w' hSw
          (try dsimp only at hSw)
          go_simp
          try with_reducible rfl
         try simp only [Act.put, zA, zB, zC, zD, zE, zF]
         refine tkL 28 (v := ?_) ?_ hHeld ?_
         rotate_left 1
         ·intro w' hSw
          (try dsimp only at hSw)
          go_simp
          try with_reducible rfl
         try simp only [Act.put, zA, zB, zC, zD, zE, zF]
         refine tkL 29 (v := ?_) ?_ hHeld ?_
         rotate_left 1
         ·intro w' hSw
          (try dsimp only at hSw)
          go_simp
          try with_reducible rfl
         try simp only [Act.put, zA, zB, zC, zD, zE, zF]
         refine tkL 30 (v := ?_) ?_ hHeld ?_
         rotate_left 1
         ·intro w' hSw
          (try dsimp only at hSw)
          go_simp
          try with_reducible rfl
         try simp only [Act.put, zA, zB, zC, zD, zE, zF]
         refine tkL 31 (v := .bool false) ?_ hHeld ?_
         ·intro w' hSw
          go_simp
          try first | done | omega | exact hv0 | (simp; omega)
         try simp only [Act.put, zA, zB, zC, zD, zE, zF]
         refine tkL 32 (v := ?_) ?_ hHeld ?_
         rotate_left 1
         ·intro w' hSw
          (try dsimp only at hSw)
          go_simp
          try with_reducible rfl
         try simp only [Act.put, zA, zB, zC, zD, zE, zF]
         refine wpAnyH_done (by kernel_rfl) ?_ _
         clear hHeld HS7
         go_wp2_with fail
         go_roundw
         case rel => exact ⟨1, v, by omega, by go_num, HB7, HT⟩
         case measure => first | exact measure_next hiw hlt | exact measure_next rfl hlt
      ·obtain ⟨j, hj⟩ : ∃ j, i = j + 1 := ⟨i - 1, by omega⟩
       obtain ⟨d0, hd0, hv0', hcell⟩ := HPR.out j hj
       obtain ⟨v0, hv00⟩ : ∃ v0, v0 = p := ⟨_, rfl⟩
       rw [← hv00] at hcell
       have hi1 : (0 : Int) < (i : Int) := by omega
       have hjw : wrap64 ((i : Int) - 1) = (j : Int) := by rw [IntWalk.wrap64_in _ (by omega)]; omega
       have hjw2 : IntKind.i64.wrap ((i : Int) - 1) = (j : Int) := (IntWalk.i64_left _).trans hjw
       have hj0 : (0 : Int) ≤ (j : Int) := by omega
       have hjn : (j : Int) < (n : Int) := by omega
       have HK : Hid (∀ W, Below W6.heap.size W6 W → (fun W => W.cell? ⟨w.heap.size, 3, none⟩ = some (.slice (some ⟨g, off, none⟩) n cp) ∧ W.cell? ⟨wr.heap.size, 0, none⟩ = some (.int .i64 v) ∧ W.cell? ⟨wr.heap.size, 1, none⟩ = some (.bool s) ∧ W.cell? ⟨wr.heap.size, 2, none⟩ = some (.slice a1 lx c1) ∧ W.cell? ⟨wr.heap.size, 3, none⟩ = some (.slice a2 ld c2) ∧ W.cell? ⟨g, off + j * 4, none⟩ = some (.int .i64 v0)) W) := Lib.hid fun W hW => by
        obtain ⟨_, _, _, c3', _⟩ := cellsL4 (stayL (stayL HBX.out HB6.out) hW)
        obtain ⟨m0, m1, m2, m3, _⟩ := cellsL4 (stayL HKM.out hW)
        exact ⟨c3', m0, m1, m2, m3, hcell W (HAL.out.trans (hW.mono HAL.out.size))⟩
       have hjj := hj
       clear HPR hcell hd0 hv0'
       have hle : ¬ v ≤ v0 := by omega
       clear hv00 hj hjj hi0
       cases hrt : rightB s xs ds
       ·have HE : Hid (rightP ps px pd hs = false) := Lib.hid (by unfold rightP; rw [HR.out, hrt]; simp)
        rw [hrt] at HCR
        clear hrt
        clear HR HPV
        go_wp2_with (first | (refine wpList_val (.agg #[.int .i64 v, .bool s, .slice a1 lx c1, .slice a2 ld c2]) (run_load_op 51 (.tmp 19) (by with_reducible rfl) g (off + i * 4) (by rfl) _ _ hr4 Tryz.underlying51 rfl (by rw [size_mono]; rfl)) (by rfl) ?_) | (with_reducible refine wpList_alloc_agg rfl 51 rfl zMono zero_mono ?_) | (refine wpList_store_new rfl 51 (.tmp 4) (.tmp 20) (by with_reducible rfl) wr zMono #[.int .i64 v, .bool s, .slice a1 lx c1, .slice a2 ld c2] (by rfl) (by rfl) (by rfl) (by rw [size_mono]; rfl) (by rfl) (one_mono ⟨v, s, a1, lx, c1, a2, ld, c2⟩) ?_))
        rw [← HW6.out]
        refine wp_region_held_drew (S := (fun W => W.cell? ⟨w.heap.size, 3, none⟩ = some (.slice (some ⟨g, off, none⟩) n cp) ∧ W.cell? ⟨wr.heap.size, 0, none⟩ = some (.int .i64 v) ∧ W.cell? ⟨wr.heap.size, 1, none⟩ = some (.bool s) ∧ W.cell? ⟨wr.heap.size, 2, none⟩ = some (.slice a1 lx c1) ∧ W.cell? ⟨wr.heap.size, 3, none⟩ = some (.slice a2 ld c2) ∧ W.cell? ⟨g, off + j * 4, none⟩ = some (.int .i64 v0))) (by kernel_rfl) ?_ (fun hHeld => ?_)
        ·exact HK.out _ (below_drew W6)
        refine tkL 0 (v := ?_) ?_ hHeld ?_
        rotate_left 1
        ·intro w' hSw
         (try dsimp only at hSw)
         go_simp
         try with_reducible rfl
        try simp only [Act.put, zA, zB, zC, zD, zE, zF]
        refine tkL 1 (v := ?_) ?_ hHeld ?_
        rotate_left 1
        ·intro w' hSw
         (try dsimp only at hSw)
         go_simp
         try with_reducible rfl
        try simp only [Act.put, zA, zB, zC, zD, zE, zF]
        refine tkL 2 (v := .bool false) ?_ hHeld ?_
        ·intro w' hSw
         go_simp
         try first | done | omega | exact hv0 | (simp; omega)
        try simp only [Act.put, zA, zB, zC, zD, zE, zF]
        refine tkL 3 (v := ?_) ?_ hHeld ?_
        rotate_left 1
        ·intro w' hSw
         (try dsimp only at hSw)
         go_simp
         try with_reducible rfl
        try simp only [Act.put, zA, zB, zC, zD, zE, zF]
        refine tkL 4 (v := ?_) ?_ hHeld ?_
        rotate_left 1
        ·intro w' hSw
         (try dsimp only at hSw)
         go_simp
         try with_reducible rfl
        try simp only [Act.put, zA, zB, zC, zD, zE, zF]
        refine tkL 5 (v := .bool true) ?_ hHeld ?_
        ·intro w' hSw
         go_simp
         try first | done | omega | exact hv0 | (simp; omega)
        try simp only [Act.put, zA, zB, zC, zD, zE, zF]
        refine tkL 6 (v := ?_) ?_ hHeld ?_
        rotate_left 1
        ·intro w' hSw
         (try dsimp only at hSw)
         go_simp
         try with_reducible rfl
        try simp only [Act.put, zA, zB, zC, zD, zE, zF]
        refine tkL 7 (v := ?_) ?_ hHeld ?_
        rotate_left 1
        ·intro w' hSw
         (try dsimp only at hSw)
         go_simp
         try with_reducible rfl
        try simp only [Act.put, zA, zB, zC, zD, zE, zF]
        refine tkL 8 (v := ?_) ?_ hHeld ?_
        rotate_left 1
        ·intro w' hSw
         (try dsimp only at hSw)
         go_simp
         try with_reducible rfl
        try simp only [Act.put, zA, zB, zC, zD, zE, zF]
        refine tkL 9 (v := ?_) ?_ hHeld ?_
        rotate_left 1
        ·intro w' hSw
         (try dsimp only at hSw)
         go_simp
         try with_reducible rfl
        try simp only [Act.put, zA, zB, zC, zD, zE, zF]
        refine tkL 10 (v := ?_) ?_ hHeld ?_
        rotate_left 1
        ·intro w' hSw
         (try dsimp only at hSw)
         go_simp
         try with_reducible rfl
        try simp only [Act.put, zA, zB, zC, zD, zE, zF]
        refine tkL 11 (v := ?_) ?_ hHeld ?_
        rotate_left 1
        ·intro w' hSw
         (try dsimp only at hSw)
         go_simp
         try with_reducible rfl
        try simp only [Act.put, zA, zB, zC, zD, zE, zF]
        refine tkL 12 (v := ?_) ?_ hHeld ?_
        rotate_left 1
        ·intro w' hSw
         (try dsimp only at hSw)
         go_simp
         try with_reducible rfl
        try simp only [Act.put, zA, zB, zC, zD, zE, zF]
        refine tkL 13 (v := ?_) ?_ hHeld ?_
        rotate_left 1
        ·intro w' hSw
         (try dsimp only at hSw)
         go_simp
         try with_reducible rfl
        try simp only [Act.put, zA, zB, zC, zD, zE, zF]
        refine tkL 14 (v := ?_) ?_ hHeld ?_
        rotate_left 1
        ·intro w' hSw
         (try dsimp only at hSw)
         go_simp
         try with_reducible rfl
        try simp only [Act.put, zA, zB, zC, zD, zE, zF]
        refine tkL 15 (v := ?_) ?_ hHeld ?_
        rotate_left 1
        ·intro w' hSw
         (try dsimp only at hSw)
         go_simp
         try with_reducible rfl
        try simp only [Act.put, zA, zB, zC, zD, zE, zF]
        refine tkL 16 (v := .bool false) ?_ hHeld ?_
        ·intro w' hSw
         go_simp
         try first | done | omega | exact hv0 | (simp; omega)
        try simp only [Act.put, zA, zB, zC, zD, zE, zF]
        refine tkL 17 (v := ?_) ?_ hHeld ?_
        rotate_left 1
        ·intro w' hSw
         (try dsimp only at hSw)
         go_simp
         try with_reducible rfl
        try simp only [Act.put, zA, zB, zC, zD, zE, zF]
        refine tkL 18 (v := ?_) ?_ hHeld ?_
        rotate_left 1
        ·intro w' hSw
         (try dsimp only at hSw)
         go_simp
         try with_reducible rfl
        try simp only [Act.put, zA, zB, zC, zD, zE, zF]
        refine tkL 19 (v := ?_) ?_ hHeld ?_
        rotate_left 1
        ·intro w' hSw
         (try dsimp only at hSw)
         go_simp
         try with_reducible rfl
        try simp only [Act.put, zA, zB, zC, zD, zE, zF]
        refine tkL 20 (v := ?_) ?_ hHeld ?_
        rotate_left 1
        ·intro w' hSw
         (try dsimp only at hSw)
         go_simp
         try with_reducible rfl
        try simp only [Act.put, zA, zB, zC, zD, zE, zF]
        refine tkL 21 (v := ?_) ?_ hHeld ?_
        rotate_left 1
        ·intro w' hSw
         (try dsimp only at hSw)
         go_simp
         try with_reducible rfl
        try simp only [Act.put, zA, zB, zC, zD, zE, zF]
        refine rdy [22] ?_
        refine AllReadyH.cons (by rfl) (fun K hK => ?_) AllReadyH.nil
        go_simp
        refine HCR.out.mono ?_
        rintro e w7 ⟨rfl, hb7⟩
        have HB7 := Lib.hid (HB6.out.trans (hb7.out.mono HB6.out.size))
        have HS7 := Lib.hid (HK.out _ hb7.out)
        clear hb7
        refine hK.out _ _ ?_ (fun hHeld => ?_)
        ·exact HS7.out
        clear hK K
        try simp only [Act.put, zA, zB, zC, zD, zE, zF]
        refine tkL 23 (v := ?_) ?_ hHeld ?_
        rotate_left 1
        ·intro w' hSw
         (try dsimp only at hSw)
         go_simp
         try with_reducible rfl
        try simp only [Act.put, zA, zB, zC, zD, zE, zF]
        refine tkL 24 (v := ?_) ?_ hHeld ?_
        rotate_left 1
        ·intro w' hSw
         (try dsimp only at hSw)
         go_simp
         try with_reducible rfl
        try simp only [Act.put, zA, zB, zC, zD, zE, zF]
        refine tkL 25 (v := ?_) ?_ hHeld ?_
        rotate_left 1
        ·intro w' hSw
         (try dsimp only at hSw)
         go_simp
         try with_reducible rfl
        try simp only [Act.put, zA, zB, zC, zD, zE, zF]
        refine tkR 26 hHeld ?_
        try simp only [Act.put, zA, zB, zC, zD, zE, zF]
        refine tkR 27 hHeld ?_
        try simp only [Act.put, zA, zB, zC, zD, zE, zF]
        refine tkR 28 hHeld ?_
        try simp only [Act.put, zA, zB, zC, zD, zE, zF]
        refine tkR 29 hHeld ?_
        try simp only [Act.put, zA, zB, zC, zD, zE, zF]
        refine tkR 30 hHeld ?_
        try simp only [Act.put, zA, zB, zC, zD, zE, zF]
        refine tkR 31 hHeld ?_
        try simp only [Act.put, zA, zB, zC, zD, zE, zF]
        refine tkL 32 (v := ?_) ?_ hHeld ?_
        rotate_left 1
        ·intro w' hSw
         (try dsimp only at hSw)
         go_simp
         try with_reducible rfl
        try simp only [Act.put, zA, zB, zC, zD, zE, zF]
        refine wpAnyH_done (by kernel_rfl) ?_ _
        clear hHeld HS7
        go_wp2_with fail
        go_ret
        exact GivesV.mk' (by rw [HE.out]; rfl) (HB0.out.trans (HB7.out.mono HB0.out.size))
       ·by_cases hx0 : lx = 0
        ·have HE : Hid (rightP ps px pd hs = false) := Lib.hid (by unfold rightP; rw [HR.out, HLX.out, decide_eq_false (fun h : lx ≠ 0 => h hx0)]; simp)
         have hz : ((lx : Int) == 0) = true := by simpa using hx0
         rw [hrt] at HCR
         clear hrt hx0
         clear HR HPV
         go_wp2_with (first | (refine wpList_val (.agg #[.int .i64 v, .bool s, .slice a1 lx c1, .slice a2 ld c2]) (run_load_op 51 (.tmp 19) (by with_reducible rfl) g (off + i * 4) (by rfl) _ _ hr4 Tryz.underlying51 rfl (by rw [size_mono]; rfl)) (by rfl) ?_) | (with_reducible refine wpList_alloc_agg rfl 51 rfl zMono zero_mono ?_) | (refine wpList_store_new rfl 51 (.tmp 4) (.tmp 20) (by with_reducible rfl) wr zMono #[.int .i64 v, .bool s, .slice a1 lx c1, .slice a2 ld c2] (by rfl) (by rfl) (by rfl) (by rw [size_mono]; rfl) (by rfl) (one_mono ⟨v, s, a1, lx, c1, a2, ld, c2⟩) ?_))
         rw [← HW6.out]
         refine wp_region_held_drew (S := (fun W => W.cell? ⟨w.heap.size, 3, none⟩ = some (.slice (some ⟨g, off, none⟩) n cp) ∧ W.cell? ⟨wr.heap.size, 0, none⟩ = some (.int .i64 v) ∧ W.cell? ⟨wr.heap.size, 1, none⟩ = some (.bool s) ∧ W.cell? ⟨wr.heap.size, 2, none⟩ = some (.slice a1 lx c1) ∧ W.cell? ⟨wr.heap.size, 3, none⟩ = some (.slice a2 ld c2) ∧ W.cell? ⟨g, off + j * 4, none⟩ = some (.int .i64 v0))) (by kernel_rfl) ?_ (fun hHeld => ?_)
         ·exact HK.out _ (below_drew W6)
         refine tkL 0 (v := ?_) ?_ hHeld ?_
         rotate_left 1
         ·intro w' hSw
          (try dsimp only at hSw)
          go_simp
          try with_reducible rfl
         try simp only [Act.put, zA, zB, zC, zD, zE, zF]
         refine tkL 1 (v := ?_) ?_ hHeld ?_
         rotate_left 1
         ·intro w' hSw
          (try dsimp only at hSw)
          go_simp
          try with_reducible rfl
         try simp only [Act.put, zA, zB, zC, zD, zE, zF]
         refine tkL 2 (v := .bool false) ?_ hHeld ?_
         ·intro w' hSw
          go_simp
          try first | done | omega | exact hv0 | (simp; omega)
         try simp only [Act.put, zA, zB, zC, zD, zE, zF]
         refine tkL 3 (v := ?_) ?_ hHeld ?_
         rotate_left 1
         ·intro w' hSw
          (try dsimp only at hSw)
          go_simp
          try with_reducible rfl
         try simp only [Act.put, zA, zB, zC, zD, zE, zF]
         refine tkL 4 (v := ?_) ?_ hHeld ?_
         rotate_left 1
         ·intro w' hSw
          (try dsimp only at hSw)
          go_simp
          try with_reducible rfl
         try simp only [Act.put, zA, zB, zC, zD, zE, zF]
         refine tkL 5 (v := .bool true) ?_ hHeld ?_
         ·intro w' hSw
          go_simp
          try first | done | omega | exact hv0 | (simp; omega)
         try simp only [Act.put, zA, zB, zC, zD, zE, zF]
         refine tkL 6 (v := ?_) ?_ hHeld ?_
         rotate_left 1
         ·intro w' hSw
          (try dsimp only at hSw)
          go_simp
          try with_reducible rfl
         try simp only [Act.put, zA, zB, zC, zD, zE, zF]
         refine tkL 7 (v := ?_) ?_ hHeld ?_
         rotate_left 1
         ·intro w' hSw
          (try dsimp only at hSw)
          go_simp
          try with_reducible rfl
         try simp only [Act.put, zA, zB, zC, zD, zE, zF]
         refine tkL 8 (v := ?_) ?_ hHeld ?_
         rotate_left 1
         ·intro w' hSw
          (try dsimp only at hSw)
          go_simp
          try with_reducible rfl
         try simp only [Act.put, zA, zB, zC, zD, zE, zF]
         refine tkL 9 (v := ?_) ?_ hHeld ?_
         rotate_left 1
         ·intro w' hSw
          (try dsimp only at hSw)
          go_simp
          try with_reducible rfl
         try simp only [Act.put, zA, zB, zC, zD, zE, zF]
         refine tkL 10 (v := ?_) ?_ hHeld ?_
         rotate_left 1
         ·intro w' hSw
          (try dsimp only at hSw)
          go_simp
          try with_reducible rfl
         try simp only [Act.put, zA, zB, zC, zD, zE, zF]
         refine tkL 11 (v := ?_) ?_ hHeld ?_
         rotate_left 1
         ·intro w' hSw
          (try dsimp only at hSw)
          go_simp
          try with_reducible rfl
         try simp only [Act.put, zA, zB, zC, zD, zE, zF]
         refine tkL 12 (v := ?_) ?_ hHeld ?_
         rotate_left 1
         ·intro w' hSw
          (try dsimp only at hSw)
          go_simp
          try with_reducible rfl
         try simp only [Act.put, zA, zB, zC, zD, zE, zF]
         refine tkL 13 (v := ?_) ?_ hHeld ?_
         rotate_left 1
         ·intro w' hSw
          (try dsimp only at hSw)
          go_simp
          try with_reducible rfl
         try simp only [Act.put, zA, zB, zC, zD, zE, zF]
         refine tkL 14 (v := ?_) ?_ hHeld ?_
         rotate_left 1
         ·intro w' hSw
          (try dsimp only at hSw)
          go_simp
          try with_reducible rfl
         try simp only [Act.put, zA, zB, zC, zD, zE, zF]
         refine tkL 15 (v := ?_) ?_ hHeld ?_
         rotate_left 1
         ·intro w' hSw
          (try dsimp only at hSw)
          go_simp
          try with_reducible rfl
         try simp only [Act.put, zA, zB, zC, zD, zE, zF]
         refine tkL 16 (v := .bool false) ?_ hHeld ?_
         ·intro w' hSw
          go_simp
          try first | done | omega | exact hv0 | (simp; omega)
         try simp only [Act.put, zA, zB, zC, zD, zE, zF]
         refine tkL 17 (v := ?_) ?_ hHeld ?_
         rotate_left 1
         ·intro w' hSw
          (try dsimp only at hSw)
          go_simp
          try with_reducible rfl
         try simp only [Act.put, zA, zB, zC, zD, zE, zF]
         refine tkL 18 (v := ?_) ?_ hHeld ?_
         rotate_left 1
         ·intro w' hSw
          (try dsimp only at hSw)
          go_simp
          try with_reducible rfl
         try simp only [Act.put, zA, zB, zC, zD, zE, zF]
         refine tkL 19 (v := ?_) ?_ hHeld ?_
         rotate_left 1
         ·intro w' hSw
          (try dsimp only at hSw)
          go_simp
          try with_reducible rfl
         try simp only [Act.put, zA, zB, zC, zD, zE, zF]
         refine tkL 20 (v := ?_) ?_ hHeld ?_
         rotate_left 1
         ·intro w' hSw
          (try dsimp only at hSw)
          go_simp
          try with_reducible rfl
         try simp only [Act.put, zA, zB, zC, zD, zE, zF]
         refine tkL 21 (v := ?_) ?_ hHeld ?_
         rotate_left 1
         ·intro w' hSw
          (try dsimp only at hSw)
          go_simp
          try with_reducible rfl
         try simp only [Act.put, zA, zB, zC, zD, zE, zF]
         refine rdy [22] ?_
         refine AllReadyH.cons (by rfl) (fun K hK => ?_) AllReadyH.nil
         go_simp
         refine HCR.out.mono ?_
         rintro e w7 ⟨rfl, hb7⟩
         have HB7 := Lib.hid (HB6.out.trans (hb7.out.mono HB6.out.size))
         have HS7 := Lib.hid (HK.out _ hb7.out)
         clear hb7
         refine hK.out _ _ ?_ (fun hHeld => ?_)
         ·exact HS7.out
         clear hK K
         try simp only [Act.put, zA, zB, zC, zD, zE, zF]
         refine tkL 23 (v := ?_) ?_ hHeld ?_
         rotate_left 1
         ·intro w' hSw
          (try dsimp only at hSw)
          go_simp
          try with_reducible rfl
         try simp only [Act.put, zA, zB, zC, zD, zE, zF]
         refine tkL 24 (v := ?_) ?_ hHeld ?_
         rotate_left 1
         ·intro w' hSw
          (try dsimp only at hSw)
          go_simp
          try with_reducible rfl
         try simp only [Act.put, zA, zB, zC, zD, zE, zF]
         refine tkL 25 (v := ?_) ?_ hHeld ?_
         rotate_left 1
         ·intro w' hSw
          (try dsimp only at hSw)
          go_simp
          try with_reducible rfl
         try simp only [Act.put, zA, zB, zC, zD, zE, zF]
         refine tkL 26 (v := ?_) ?_ hHeld ?_
         rotate_left 1
         ·intro w' hSw
          (try dsimp only at hSw)
          go_simp
          try with_reducible rfl
         try simp only [Act.put, zA, zB, zC, zD, zE, zF]
         refine tkL 27 (v := ?_) ?_ hHeld ?_
         rotate_left 1
         ·intro w' hSw
          (try dsimp only at hSw)
          go_simp
          try with_reducible rfl
         try simp only [Act.put, zA, zB, zC, zD, zE, zF]
         refine tkL 28 (v := ?_) ?_ hHeld ?_
         rotate_left 1
         ·intro w' hSw
          (try dsimp only at hSw)
          go_simp
          try with_reducible rfl
         try simp only [Act.put, zA, zB, zC, zD, zE, zF]
         refine tkL 29 (v := ?_) ?_ hHeld ?_
         rotate_left 1
         ·intro w' hSw
          (try dsimp only at hSw)
          go_simp
          try with_reducible rfl
         try simp only [Act.put, zA, zB, zC, zD, zE, zF]
         refine tkL 30 (v := ?_) ?_ hHeld ?_
         rotate_left 1
         ·intro w' hSw
          (try dsimp only at hSw)
          go_simp
          try with_reducible rfl
         try simp only [Act.put, zA, zB, zC, zD, zE, zF]
         refine tkL 31 (v := .bool true) ?_ hHeld ?_
         ·intro w' hSw
          go_simp
          try first | done | omega | exact hv0 | (simp; omega)
         try simp only [Act.put, zA, zB, zC, zD, zE, zF]
         refine tkL 32 (v := ?_) ?_ hHeld ?_
         rotate_left 1
         ·intro w' hSw
          (try dsimp only at hSw)
          go_simp
          try with_reducible rfl
         try simp only [Act.put, zA, zB, zC, zD, zE, zF]
         refine wpAnyH_done (by kernel_rfl) ?_ _
         clear hHeld HS7
         go_wp2_with fail
         go_ret
         exact GivesV.mk' (by rw [HE.out]; rfl) (HB0.out.trans (HB7.out.mono HB0.out.size))
        ·have HT : Hid (rightMs (-1) hs = rightMs v (hs.drop (i + 1)) ∧ -1 ≤ v ∧ (i + 1 = 0 → v = -1) ∧ ∀ j d, i + 1 = j + 1 → hs[j]? = some d → d.v = v) := Lib.hid ⟨(by rw [HR.out, HLX.out, hrt, decide_eq_true hpv, decide_eq_true (show lx ≠ 0 from hx0)]; simp), (by have := HPV.out; omega), (by omega), prev_next HD.out⟩
         have hz : ((lx : Int) == 0) = false := by simpa using hx0
         rw [hrt] at HCR
         clear hrt hx0
         clear HR HPV
         go_wp2_with (first | (refine wpList_val (.agg #[.int .i64 v, .bool s, .slice a1 lx c1, .slice a2 ld c2]) (run_load_op 51 (.tmp 19) (by with_reducible rfl) g (off + i * 4) (by rfl) _ _ hr4 Tryz.underlying51 rfl (by rw [size_mono]; rfl)) (by rfl) ?_) | (with_reducible refine wpList_alloc_agg rfl 51 rfl zMono zero_mono ?_) | (refine wpList_store_new rfl 51 (.tmp 4) (.tmp 20) (by with_reducible rfl) wr zMono #[.int .i64 v, .bool s, .slice a1 lx c1, .slice a2 ld c2] (by rfl) (by rfl) (by rfl) (by rw [size_mono]; rfl) (by rfl) (one_mono ⟨v, s, a1, lx, c1, a2, ld, c2⟩) ?_))
         rw [← HW6.out]
         refine wp_region_held_drew (S := (fun W => W.cell? ⟨w.heap.size, 3, none⟩ = some (.slice (some ⟨g, off, none⟩) n cp) ∧ W.cell? ⟨wr.heap.size, 0, none⟩ = some (.int .i64 v) ∧ W.cell? ⟨wr.heap.size, 1, none⟩ = some (.bool s) ∧ W.cell? ⟨wr.heap.size, 2, none⟩ = some (.slice a1 lx c1) ∧ W.cell? ⟨wr.heap.size, 3, none⟩ = some (.slice a2 ld c2) ∧ W.cell? ⟨g, off + j * 4, none⟩ = some (.int .i64 v0))) (by kernel_rfl) ?_ (fun hHeld => ?_)
         ·exact HK.out _ (below_drew W6)
         refine tkL 0 (v := ?_) ?_ hHeld ?_
         rotate_left 1
         ·intro w' hSw
          (try dsimp only at hSw)
          go_simp
          try with_reducible rfl
         try simp only [Act.put, zA, zB, zC, zD, zE, zF]
         refine tkL 1 (v := ?_) ?_ hHeld ?_
         rotate_left 1
         ·intro w' hSw
          (try dsimp only at hSw)
          go_simp
          try with_reducible rfl
         try simp only [Act.put, zA, zB, zC, zD, zE, zF]
         refine tkL 2 (v := .bool false) ?_ hHeld ?_
         ·intro w' hSw
          go_simp
          try first | done | omega | exact hv0 | (simp; omega)
         try simp only [Act.put, zA, zB, zC, zD, zE, zF]
         refine tkL 3 (v := ?_) ?_ hHeld ?_
         rotate_left 1
         ·intro w' hSw
          (try dsimp only at hSw)
          go_simp
          try with_reducible rfl
         try simp only [Act.put, zA, zB, zC, zD, zE, zF]
         refine tkL 4 (v := ?_) ?_ hHeld ?_
         rotate_left 1
         ·intro w' hSw
          (try dsimp only at hSw)
          go_simp
          try with_reducible rfl
         try simp only [Act.put, zA, zB, zC, zD, zE, zF]
         refine tkL 5 (v := .bool true) ?_ hHeld ?_
         ·intro w' hSw
          go_simp
          try first | done | omega | exact hv0 | (simp; omega)
         try simp only [Act.put, zA, zB, zC, zD, zE, zF]
         refine tkL 6 (v := ?_) ?_ hHeld ?_
         rotate_left 1
         ·intro w' hSw
          (try dsimp only at hSw)
          go_simp
          try with_reducible rfl
         try simp only [Act.put, zA, zB, zC, zD, zE, zF]
         refine tkL 7 (v := ?_) ?_ hHeld ?_
         rotate_left 1
         ·intro w' hSw
          (try dsimp only at hSw)
          go_simp
          try with_reducible rfl
         try simp only [Act.put, zA, zB, zC, zD, zE, zF]
         refine tkL 8 (v := ?_) ?_ hHeld ?_
         rotate_left 1
         ·intro w' hSw
          (try dsimp only at hSw)
          go_simp
          try with_reducible rfl
         try simp only [Act.put, zA, zB, zC, zD, zE, zF]
         refine tkL 9 (v := ?_) ?_ hHeld ?_
         rotate_left 1
         ·intro w' hSw
          (try dsimp only at hSw)
          go_simp
          try with_reducible rfl
         try simp only [Act.put, zA, zB, zC, zD, zE, zF]
         refine tkL 10 (v := ?_) ?_ hHeld ?_
         rotate_left 1
         ·intro w' hSw
          (try dsimp only at hSw)
          go_simp
          try with_reducible rfl
         try simp only [Act.put, zA, zB, zC, zD, zE, zF]
         refine tkL 11 (v := ?_) ?_ hHeld ?_
         rotate_left 1
         ·intro w' hSw
          (try dsimp only at hSw)
          go_simp
          try with_reducible rfl
         try simp only [Act.put, zA, zB, zC, zD, zE, zF]
         refine tkL 12 (v := ?_) ?_ hHeld ?_
         rotate_left 1
         ·intro w' hSw
          (try dsimp only at hSw)
          go_simp
          try with_reducible rfl
         try simp only [Act.put, zA, zB, zC, zD, zE, zF]
         refine tkL 13 (v := ?_) ?_ hHeld ?_
         rotate_left 1
         ·intro w' hSw
          (try dsimp only at hSw)
          go_simp
          try with_reducible rfl
         try simp only [Act.put, zA, zB, zC, zD, zE, zF]
         refine tkL 14 (v := ?_) ?_ hHeld ?_
         rotate_left 1
         ·intro w' hSw
          (try dsimp only at hSw)
          go_simp
          try with_reducible rfl
         try simp only [Act.put, zA, zB, zC, zD, zE, zF]
         refine tkL 15 (v := ?_) ?_ hHeld ?_
         rotate_left 1
         ·intro w' hSw
          (try dsimp only at hSw)
          go_simp
          try with_reducible rfl
         try simp only [Act.put, zA, zB, zC, zD, zE, zF]
         refine tkL 16 (v := .bool false) ?_ hHeld ?_
         ·intro w' hSw
          go_simp
          try first | done | omega | exact hv0 | (simp; omega)
         try simp only [Act.put, zA, zB, zC, zD, zE, zF]
         refine tkL 17 (v := ?_) ?_ hHeld ?_
         rotate_left 1
         ·intro w' hSw
          (try dsimp only at hSw)
          go_simp
          try with_reducible rfl
         try simp only [Act.put, zA, zB, zC, zD, zE, zF]
         refine tkL 18 (v := ?_) ?_ hHeld ?_
         rotate_left 1
         ·intro w' hSw
          (try dsimp only at hSw)
          go_simp
          try with_reducible rfl
         try simp only [Act.put, zA, zB, zC, zD, zE, zF]
         refine tkL 19 (v := ?_) ?_ hHeld ?_
         rotate_left 1
         ·intro w' hSw
          (try dsimp only at hSw)
          go_simp
          try with_reducible rfl
         try simp only [Act.put, zA, zB, zC, zD, zE, zF]
         refine tkL 20 (v := ?_) ?_ hHeld ?_
         rotate_left 1
         ·intro w' hSw
          (try dsimp only at hSw)
          go_simp
          try with_reducible rfl
         try simp only [Act.put, zA, zB, zC, zD, zE, zF]
         refine tkL 21 (v := ?_) ?_ hHeld ?_
         rotate_left 1
         ·intro w' hSw
          (try dsimp only at hSw)
          go_simp
          try with_reducible rfl
         try simp only [Act.put, zA, zB, zC, zD, zE, zF]
         refine rdy [22] ?_
         refine AllReadyH.cons (by rfl) (fun K hK => ?_) AllReadyH.nil
         go_simp
         refine HCR.out.mono ?_
         rintro e w7 ⟨rfl, hb7⟩
         have HB7 := Lib.hid (HB6.out.trans (hb7.out.mono HB6.out.size))
         have HS7 := Lib.hid (HK.out _ hb7.out)
         clear hb7
         refine hK.out _ _ ?_ (fun hHeld => ?_)
         ·exact HS7.out
         clear hK K
         try simp only [Act.put, zA, zB, zC, zD, zE, zF]
         refine tkL 23 (v := ?_) ?_ hHeld ?_
         rotate_left 1
         ·intro w' hSw
          (try dsimp only at hSw)
          go_simp
          try with_reducible rfl
         try simp only [Act.put, zA, zB, zC, zD, zE, zF]
         refine tkL 24 (v := ?_) ?_ hHeld ?_
         rotate_left 1
         ·intro w' hSw
          (try dsimp only at hSw)
          go_simp
          try with_reducible rfl
         try simp only [Act.put, zA, zB, zC, zD, zE, zF]
         refine tkL 25 (v := ?_) ?_ hHeld ?_
         rotate_left 1
         ·intro w' hSw
          (try dsimp only at hSw)
          go_simp
          try with_reducible rfl
         try simp only [Act.put, zA, zB, zC, zD, zE, zF]
         refine tkL 26 (v := ?_) ?_ hHeld ?_
         rotate_left 1
         ·intro w' hSw
          (try dsimp only at hSw)
          go_simp
          try with_reducible rfl
         try simp only [Act.put, zA, zB, zC, zD, zE, zF]
         refine tkL 27 (v := ?_) ?_ hHeld ?_
         rotate_left 1
         ·intro w' hSw
          (try dsimp only at hSw)
          go_simp
          try with_reducible rfl
         try simp only [Act.put, zA, zB, zC, zD, zE, zF]
         refine tkL 28 (v := ?_) ?_ hHeld ?_
         rotate_left 1
         ·intro w' hSw
          (try dsimp only at hSw)
          go_simp
          try with_reducible rfl
         try simp only [Act.put, zA, zB, zC, zD, zE, zF]
         refine tkL 29 (v := ?_) ?_ hHeld ?_
         rotate_left 1
         ·intro w' hSw
          (try dsimp only at hSw)
          go_simp
          try with_reducible rfl
         try simp only [Act.put, zA, zB, zC, zD, zE, zF]
         refine tkL 30 (v := ?_) ?_ hHeld ?_
         rotate_left 1
         ·intro w' hSw
          (try dsimp only at hSw)
          go_simp
          try with_reducible rfl
         try simp only [Act.put, zA, zB, zC, zD, zE, zF]
         refine tkL 31 (v := .bool false) ?_ hHeld ?_
         ·intro w' hSw
          go_simp
          try first | done | omega | exact hv0 | (simp; omega)
         try simp only [Act.put, zA, zB, zC, zD, zE, zF]
         refine tkL 32 (v := ?_) ?_ hHeld ?_
         rotate_left 1
         ·intro w' hSw
          (try dsimp only at hSw)
          go_simp
          try with_reducible rfl
         try simp only [Act.put, zA, zB, zC, zD, zE, zF]
         refine wpAnyH_done (by kernel_rfl) ?_ _
         clear hHeld HS7
         go_wp2_with fail
         go_roundw
         case rel => exact ⟨i + 1, v, by omega, by go_num, HB7, HT⟩
         case measure => first | exact measure_next hiw hlt | exact measure_next rfl hlt
     ·have hi0 : i ≠ 0 := fun h => by have := HPV.out.2 h; omega
      obtain ⟨j, hj⟩ : ∃ j, i = j + 1 := ⟨i - 1, by omega⟩
      obtain ⟨d0, hd0, hv0', hcell⟩ := HPR.out j hj
      obtain ⟨v0, hv00⟩ : ∃ v0, v0 = p := ⟨_, rfl⟩
      rw [← hv00] at hcell
      have HE : Hid (rightP ps px pd hs = false) := Lib.hid (by unfold rightP; rw [HR.out, decide_eq_false hpv]; simp)
      have hi1 : (0 : Int) < (i : Int) := by omega
      have hjw : wrap64 ((i : Int) - 1) = (j : Int) := by rw [IntWalk.wrap64_in _ (by omega)]; omega
      have hjw2 : IntKind.i64.wrap ((i : Int) - 1) = (j : Int) := (IntWalk.i64_left _).trans hjw
      have hj0 : (0 : Int) ≤ (j : Int) := by omega
      have hjn : (j : Int) < (n : Int) := by omega
      have HK : Hid (∀ W, Below W6.heap.size W6 W → (fun W => W.cell? ⟨w.heap.size, 3, none⟩ = some (.slice (some ⟨g, off, none⟩) n cp) ∧ W.cell? ⟨wr.heap.size, 0, none⟩ = some (.int .i64 v) ∧ W.cell? ⟨wr.heap.size, 1, none⟩ = some (.bool s) ∧ W.cell? ⟨wr.heap.size, 2, none⟩ = some (.slice a1 lx c1) ∧ W.cell? ⟨wr.heap.size, 3, none⟩ = some (.slice a2 ld c2) ∧ W.cell? ⟨g, off + j * 4, none⟩ = some (.int .i64 v0)) W) := Lib.hid fun W hW => by
       obtain ⟨_, _, _, c3', _⟩ := cellsL4 (stayL (stayL HBX.out HB6.out) hW)
       obtain ⟨m0, m1, m2, m3, _⟩ := cellsL4 (stayL HKM.out hW)
       exact ⟨c3', m0, m1, m2, m3, hcell W (HAL.out.trans (hW.mono HAL.out.size))⟩
      have hjj := hj
      clear HPR hcell hd0 hv0'
      have hle : v ≤ v0 := by omega
      clear hv00 hj hjj hi0 hpv
      clear HR HPV
      go_wp2_with (first | (refine wpList_val (.agg #[.int .i64 v, .bool s, .slice a1 lx c1, .slice a2 ld c2]) (run_load_op 51 (.tmp 19) (by with_reducible rfl) g (off + i * 4) (by rfl) _ _ hr4 Tryz.underlying51 rfl (by rw [size_mono]; rfl)) (by rfl) ?_) | (with_reducible refine wpList_alloc_agg rfl 51 rfl zMono zero_mono ?_) | (refine wpList_store_new rfl 51 (.tmp 4) (.tmp 20) (by with_reducible rfl) wr zMono #[.int .i64 v, .bool s, .slice a1 lx c1, .slice a2 ld c2] (by rfl) (by rfl) (by rfl) (by rw [size_mono]; rfl) (by rfl) (one_mono ⟨v, s, a1, lx, c1, a2, ld, c2⟩) ?_))
      rw [← HW6.out]
      refine wp_region_held_drew (S := (fun W => W.cell? ⟨w.heap.size, 3, none⟩ = some (.slice (some ⟨g, off, none⟩) n cp) ∧ W.cell? ⟨wr.heap.size, 0, none⟩ = some (.int .i64 v) ∧ W.cell? ⟨wr.heap.size, 1, none⟩ = some (.bool s) ∧ W.cell? ⟨wr.heap.size, 2, none⟩ = some (.slice a1 lx c1) ∧ W.cell? ⟨wr.heap.size, 3, none⟩ = some (.slice a2 ld c2) ∧ W.cell? ⟨g, off + j * 4, none⟩ = some (.int .i64 v0))) (by kernel_rfl) ?_ (fun hHeld => ?_)
      ·exact HK.out _ (below_drew W6)
      refine tkL 0 (v := ?_) ?_ hHeld ?_
      rotate_left 1
      ·intro w' hSw
       (try dsimp only at hSw)
       go_simp
       try with_reducible rfl
      try simp only [Act.put, zA, zB, zC, zD, zE, zF]
      refine tkL 1 (v := ?_) ?_ hHeld ?_
      rotate_left 1
      ·intro w' hSw
       (try dsimp only at hSw)
       go_simp
       try with_reducible rfl
      try simp only [Act.put, zA, zB, zC, zD, zE, zF]
      refine tkL 2 (v := .bool false) ?_ hHeld ?_
      ·intro w' hSw
       go_simp
       try first | done | omega | exact hv0 | (simp; omega)
      try simp only [Act.put, zA, zB, zC, zD, zE, zF]
      refine tkL 3 (v := ?_) ?_ hHeld ?_
      rotate_left 1
      ·intro w' hSw
       (try dsimp only at hSw)
       go_simp
       try with_reducible rfl
      try simp only [Act.put, zA, zB, zC, zD, zE, zF]
      refine tkL 4 (v := ?_) ?_ hHeld ?_
      rotate_left 1
      ·intro w' hSw
       (try dsimp only at hSw)
       go_simp
       try with_reducible rfl
      try simp only [Act.put, zA, zB, zC, zD, zE, zF]
      refine tkL 5 (v := .bool true) ?_ hHeld ?_
      ·intro w' hSw
       go_simp
       try first | done | omega | exact hv0 | (simp; omega)
      try simp only [Act.put, zA, zB, zC, zD, zE, zF]
      refine tkL 6 (v := ?_) ?_ hHeld ?_
      rotate_left 1
      ·intro w' hSw
       (try dsimp only at hSw)
       go_simp
       try with_reducible rfl
      try simp only [Act.put, zA, zB, zC, zD, zE, zF]
      refine tkL 7 (v := ?_) ?_ hHeld ?_
      rotate_left 1
      ·intro w' hSw
       (try dsimp only at hSw)
       go_simp
       try with_reducible rfl
      try simp only [Act.put, zA, zB, zC, zD, zE, zF]
      refine tkL 8 (v := ?_) ?_ hHeld ?_
      rotate_left 1
      ·intro w' hSw
       (try dsimp only at hSw)
       go_simp
       try with_reducible rfl
      try simp only [Act.put, zA, zB, zC, zD, zE, zF]
      refine tkL 9 (v := ?_) ?_ hHeld ?_
      rotate_left 1
      ·intro w' hSw
       (try dsimp only at hSw)
       go_simp
       try with_reducible rfl
      try simp only [Act.put, zA, zB, zC, zD, zE, zF]
      refine tkL 10 (v := ?_) ?_ hHeld ?_
      rotate_left 1
      ·intro w' hSw
       (try dsimp only at hSw)
       go_simp
       try with_reducible rfl
      try simp only [Act.put, zA, zB, zC, zD, zE, zF]
      refine tkL 11 (v := ?_) ?_ hHeld ?_
      rotate_left 1
      ·intro w' hSw
       (try dsimp only at hSw)
       go_simp
       try with_reducible rfl
      try simp only [Act.put, zA, zB, zC, zD, zE, zF]
      refine tkL 12 (v := ?_) ?_ hHeld ?_
      rotate_left 1
      ·intro w' hSw
       (try dsimp only at hSw)
       go_simp
       try with_reducible rfl
      try simp only [Act.put, zA, zB, zC, zD, zE, zF]
      refine tkL 13 (v := ?_) ?_ hHeld ?_
      rotate_left 1
      ·intro w' hSw
       (try dsimp only at hSw)
       go_simp
       try with_reducible rfl
      try simp only [Act.put, zA, zB, zC, zD, zE, zF]
      refine tkL 14 (v := ?_) ?_ hHeld ?_
      rotate_left 1
      ·intro w' hSw
       (try dsimp only at hSw)
       go_simp
       try with_reducible rfl
      try simp only [Act.put, zA, zB, zC, zD, zE, zF]
      refine tkL 15 (v := ?_) ?_ hHeld ?_
      rotate_left 1
      ·intro w' hSw
       (try dsimp only at hSw)
       go_simp
       try with_reducible rfl
      try simp only [Act.put, zA, zB, zC, zD, zE, zF]
      refine tkL 16 (v := .bool true) ?_ hHeld ?_
      ·intro w' hSw
       go_simp
       try first | done | omega | exact hv0 | (simp; omega)
      try simp only [Act.put, zA, zB, zC, zD, zE, zF]
      refine tkL 17 (v := ?_) ?_ hHeld ?_
      rotate_left 1
      ·intro w' hSw
       (try dsimp only at hSw)
       go_simp
       try with_reducible rfl
      try simp only [Act.put, zA, zB, zC, zD, zE, zF]
      refine tkL 18 (v := ?_) ?_ hHeld ?_
      rotate_left 1
      ·intro w' hSw
       (try dsimp only at hSw)
       go_simp
       try with_reducible rfl
      try simp only [Act.put, zA, zB, zC, zD, zE, zF]
      refine tkL 19 (v := ?_) ?_ hHeld ?_
      rotate_left 1
      ·intro w' hSw
       (try dsimp only at hSw)
       go_simp
       try with_reducible rfl
      try simp only [Act.put, zA, zB, zC, zD, zE, zF]
      refine tkR 20 hHeld ?_
      try simp only [Act.put, zA, zB, zC, zD, zE, zF]
      refine tkR 21 hHeld ?_
      try simp only [Act.put, zA, zB, zC, zD, zE, zF]
      refine tkR 22 hHeld ?_
      try simp only [Act.put, zA, zB, zC, zD, zE, zF]
      refine tkR 23 hHeld ?_
      try simp only [Act.put, zA, zB, zC, zD, zE, zF]
      refine tkL 24 (v := ?_) ?_ hHeld ?_
      rotate_left 1
      ·intro w' hSw
       (try dsimp only at hSw)
       go_simp
       try with_reducible rfl
      try simp only [Act.put, zA, zB, zC, zD, zE, zF]
      refine tkL 25 (v := ?_) ?_ hHeld ?_
      rotate_left 1
      ·intro w' hSw
       (try dsimp only at hSw)
       go_simp
       try with_reducible rfl
      try simp only [Act.put, zA, zB, zC, zD, zE, zF]
      refine tkR 26 hHeld ?_
      try simp only [Act.put, zA, zB, zC, zD, zE, zF]
      refine tkR 27 hHeld ?_
      try simp only [Act.put, zA, zB, zC, zD, zE, zF]
      refine tkR 28 hHeld ?_
      try simp only [Act.put, zA, zB, zC, zD, zE, zF]
      refine tkR 29 hHeld ?_
      try simp only [Act.put, zA, zB, zC, zD, zE, zF]
      refine tkR 30 hHeld ?_
      try simp only [Act.put, zA, zB, zC, zD, zE, zF]
      refine tkR 31 hHeld ?_
      try simp only [Act.put, zA, zB, zC, zD, zE, zF]
      refine tkL 32 (v := ?_) ?_ hHeld ?_
      rotate_left 1
      ·intro w' hSw
       (try dsimp only at hSw)
       go_simp
       try with_reducible rfl
      try simp only [Act.put, zA, zB, zC, zD, zE, zF]
      refine wpAnyH_done (by kernel_rfl) ?_ _
      clear hHeld
      go_wp2_with fail
      go_ret
      exact GivesV.mk' (by rw [HE.out]; rfl) (HB0.out.trans (HB6.out.drew.mono HB0.out.size))
   ·obtain rfl : i = n := by omega
    have HE : Hid (rightP ps px pd hs = true) := Lib.hid (by
     unfold rightP
     rw [HC0.out, HT.out.1, List.drop_of_length_le (by have := HMM.out.2; omega)]; rfl)
    go_wp2_with fail
    go_ret
    exact GivesV.mk' (by rw [HE.out]; rfl) HBW.out
end Go.Proofs.YtpjeecahaeaajaaGreatDoor

set_option linter.unusedVariables false
set_option linter.unusedSimpArgs false
namespace Go.Proofs.YtpjeecahaeaajaaGreatDoor
open Go.RowKit Rep Ln
end Go.Proofs.YtpjeecahaeaajaaGreatDoor
