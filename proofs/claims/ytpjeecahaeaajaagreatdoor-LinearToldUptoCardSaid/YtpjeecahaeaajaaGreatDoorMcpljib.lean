/- By program out of: LnHand, LnRRight, LnPRight, LnOdd. -/
import Derived.Test.YtpjeecahaeaajaaGreatDoorMhcfcca
import Derived.Test.YtpjeecahaeaajaaGreatDoorMmkloij
import Derived.Test.YtpjeecahaeaajaaGreatDoorMpakloe
set_option linter.unusedVariables false
set_option linter.unusedSimpArgs false
namespace Go.Proofs.YtpjeecahaeaajaaGreatDoor
open Go.RowKit Rep Ln
structure HM where
 v : Int
 s : Bool
 a1 : Option Addr
 c1 : Nat
 xs : List Nat
 a2 : Option Addr
 c2 : Nat
 ds : List Nat
def HM.cells (d : HM) : List Value := [.int .i64 d.v, .bool d.s, .slice d.a1 d.xs.length d.c1, .slice d.a2 d.ds.length d.c2]
def HM.right (d : HM) : Bool := rightB d.s d.xs d.ds
def rightMs : Int → List HM → Bool
 | _, [] => true
 | p, d :: l => decide (p < d.v) && (d.right && (decide (d.xs.length ≠ 0) && rightMs d.v l))
structure HMs (w : World) (a : Option Addr) (hs : List HM) : Prop where
 mem : hs = [] ∨ ∃ g off, a = some ⟨g, off, none⟩ ∧ ∀ (k : Nat) (d : HM), hs[k]? = some d → w.rangeAt g (off + k * 4) d.cells
 nums : ∀ d ∈ hs, HandR w d.a1 d.c1 d.xs d.a2 d.c2 d.ds ∧ d.xs.length ≤ 2000000 ∧ d.ds.length ≤ 2000000
section
variable {w w' : World} {a : Option Addr} {hs : List HM}
theorem HMs.kept (h : HMs w a hs) (hb : Below w.heap.size w w') : HMs w' a hs := by
 refine ⟨?_, fun d hd => ⟨(h.nums d hd).1.kept hb, (h.nums d hd).2⟩⟩
 rcases h.mem with e | ⟨g, off, e, hr⟩
 ·exact .inl e
 ·exact .inr ⟨g, off, e, fun k d hd => rangeAt_kept (hr k d hd) hb (rangeAt_lt (hr k d hd) (by simp [HM.cells]))⟩
theorem HMs.get (h : HMs w a hs) {k : Nat} (hk : k < hs.length) : ∃ (d : HM) (g off : Nat), hs[k]? = some d ∧ a = some ⟨g, off, none⟩ ∧ HandR w d.a1 d.c1 d.xs d.a2 d.c2 d.ds ∧ d.xs.length ≤ 2000000 ∧ d.ds.length ≤ 2000000 ∧ w.rangeAt g (off + k * 4) d.cells := by
 have hd : hs[k]? = some hs[k] := List.getElem?_eq_getElem hk
 have hn := h.nums _ (List.mem_of_getElem? hd)
 rcases h.mem with e | ⟨g, off, e, hr⟩
 ·rw [e] at hk; simp at hk
 ·exact ⟨_, g, off, hd, e, hn.1, hn.2.1, hn.2.2, hr k _ hd⟩
theorem rightMs_at {p : Int} {i : Nat} {d : HM} (h : hs[i]? = some d) : rightMs p (hs.drop i) = (decide (p < d.v) && (d.right && (decide (d.xs.length ≠ 0) && rightMs d.v (hs.drop (i + 1))))) := by
 have hi : i < hs.length := (List.getElem?_eq_some_iff.1 h).1
 rw [List.drop_eq_getElem_cons hi, (List.getElem?_eq_some_iff.1 h).2]
 rfl
theorem Handed.inL {a : Option Addr} {c : Nat} {xs : List Nat} (h : Handed w a c xs) (hl : xs.length ≤ 2000000) : NumIn w a c xs := ⟨h.lim, h.reads, h.le, h.cap, by omega⟩
theorem right_hand {s : Bool} {a1 a2 : Option Addr} {c1 c2 : Nat} {xs ds : List Nat} (h : HandR w a1 c1 xs a2 c2 ds) (lx : xs.length ≤ 2000000) (ld : ds.length ≤ 2000000) :
    Calls Tryz.prog 12 #[.agg #[.bool s, .slice a1 xs.length c1, .slice a2 ds.length c2]] w (GivesB (rightB s xs ds) w) :=
 RightR_any (h.num.inL lx) (h.den.inL ld) lx ld
theorem right_hand7 {W6 : World} {s : Bool} {a1 a2 : Option Addr} {c1 c2 : Nat} {xs ds : List Nat} (h : HandR W6 a1 c1 xs a2 c2 ds) (lx : xs.length ≤ 2000000) (ld : ds.length ≤ 2000000) :
    Calls Tryz.prog 12 #[.agg #[.bool s, .slice a1 xs.length c1, .slice a2 ds.length c2]] W6.drew (fun e W' => e = .returned (.bool (rightB s xs ds)) ∧ Hid (Below W6.heap.size W6 W')) :=
 (right_hand (h.kept (below_drew W6)) lx ld).mono fun e W' hg => ⟨hg.1, Lib.hid ((below_drew W6).trans (hg.2.mono (Nat.le_refl _)))⟩
end
end Go.Proofs.YtpjeecahaeaajaaGreatDoor

namespace Go.Proofs.YtpjeecahaeaajaaGreatDoor
open Go.RowKit Rep Ln
theorem prev_next {hs : List HM} {i : Nat} {d : HM} (h : hs[i]? = some d) : ∀ j d', i + 1 = j + 1 → hs[j]? = some d' → d'.v = d.v := fun j d' hj hd => by
 obtain rfl : j = i := by omega
 rw [h] at hd; cases hd; rfl
def rightP (s : Bool) (xs ds : List Nat) (hs : List HM) : Bool := rightB s xs ds && rightMs (-1) hs
set_option maxRecDepth 100000 in
set_option maxHeartbeats 16000000 in
theorem RRight_any {w : World} {ps : Bool} {pa pb : Option Addr} {pc pe : Nat} {px pd : List Nat} {a : Option Addr} {cp : Nat} {hs : List HM}
    (hp : HandR w pa pc px pb pe pd) (lp : px.length ≤ 2000000) (le : pd.length ≤ 2000000) (hm : HMs w a hs) (hn : hs.length ≤ 1000) :
    Calls Tryz.prog 9 #[.agg #[.bool ps, .slice pa px.length pc, .slice pb pd.length pe, .slice a hs.length cp]] w (GivesV (.bool (rightP ps px pd hs)) w) := by
 obtain ⟨pl, hpl⟩ : ∃ n, px.length = n := ⟨_, rfl⟩
 obtain ⟨pk, hpk⟩ : ∃ n, pd.length = n := ⟨_, rfl⟩
 obtain ⟨n, hnn⟩ : ∃ n, hs.length = n := ⟨_, rfl⟩
 obtain ⟨W0, hW0⟩ : ∃ W0, W0 = w.alloc (.cells #[.bool ps, .slice pa pl pc, .slice pb pk pe, .slice a n cp] 30) := ⟨_, rfl⟩
 have hB0 : Below w.heap.size w W0 := by rw [hW0]; exact (Below.refl _ _).alloc (Nat.le_refl _) _
 have b0 : W0.heap[w.heap.size]? = some (.cells #[.bool ps, .slice pa pl pc, .slice pb pk pe, .slice a n cp] 30 (0, 0)) := by rw [hW0]; exact heap_alloc_new w _
 have HFC := Lib.hid (right_hand (s := ps) (hp.kept hB0) lp le)
 rw [hpl, hpk] at HFC
 have HB0 := Lib.hid hB0
 have HMM := Lib.hid (And.intro (hm.kept hB0) hnn)
 have HW0 := Lib.hid hW0
 rw [hnn] at hn
 rw [hpl, hpk, hnn]
 have HBX := Lib.hid b0
 obtain ⟨q0, q1, q2, q3, _⟩ := cellsL4 b0
 rw [hW0] at q0 q1 q2 q3
 clear hp lp le hm hB0 b0 hnn hW0 hpl hpk
 go_enter Tryz.func9, Tryz.ntmps9
 go_wp2_with fail
 rw [← HW0.out]
 refine HFC.out.mono ?_
 rintro e w5 ⟨rfl, hb5⟩
 have HB5 := Lib.hid (HB0.out.trans (hb5.mono HB0.out.size))
 have HB05 := Lib.hid hb5
 clear q0 q1 q2 q3 hb5 HFC
 cases hov : rightB ps px pd
 ·have HE : Hid (rightP ps px pd hs = false) := Lib.hid (by unfold rightP; rw [hov]; rfl)
  clear hov
  go_wp2_with fail
  go_ret
  exact GivesV.mk' (by rw [HE.out]; rfl) HB5.out
 ·have HC0 := Lib.hid hov
  clear hov
  go_wp2_with fail
  go_loopw [3] (fun (iv : Value) (wr : World) => ∃ (i : Nat) (p : Int), i ≤ n ∧ iv = .int .i64 (i : Int) ∧ Hid (Below W0.heap.size W0 wr) ∧ Hid (rightMs (-1) hs = rightMs p (hs.drop i) ∧ -1 ≤ p ∧ (i = 0 → p = -1) ∧ ∀ j d, i = j + 1 → hs[j]? = some d → d.v = p)) (fun iv _ => n - (intOf iv).toNat)
  case atStart => exact ⟨0, -1, Nat.zero_le _, rfl, HB05, Lib.hid ⟨rfl, by omega, fun _ => rfl, fun j d hj => by omega⟩⟩
  case round =>
   obtain ⟨i, p, hin, rfl, HB, HT⟩ := hrel
   have HBW := Lib.hid (HB0.out.trans (HB.out.mono HB0.out.size))
   obtain ⟨_, _, _, c3, _⟩ := cellsL4 (stayL HBX.out HB.out)
   by_cases hlt : i < n
   ·obtain ⟨d, g, off, hd, rfl, hh, hlx, hld, hr⟩ := (HMM.out.1.kept HB.out).get (k := i) (by have := HMM.out.2; omega)
    obtain ⟨hR, hp1, hp0, hpd⟩ := HT.out
    rw [rightMs_at hd] at hR
    obtain ⟨v, s, a1, c1, xs, a2, c2, ds⟩ := d
    dsimp only [HM.right, HM.cells] at hh hlx hld hr hR
    have HPR : Hid (∀ j, i = j + 1 → ∃ d0 : HM, hs[j]? = some d0 ∧ d0.v = p ∧ ∀ W, Below wr.heap.size wr W → W.cell? ⟨g, off + j * 4, none⟩ = some (.int .i64 p)) := Lib.hid fun j hj => by
     obtain ⟨d0, g', off', hd0, hg', _, _, _, hr0⟩ := (HMM.out.1.kept HB.out).get (k := j) (by have := HMM.out.2; omega)
     cases hg'
     have e0 := hpd j d0 hj hd0
     exact ⟨d0, hd0, e0, fun W hW => by have := rangeAt_kept hr0 hW (rangeAt_lt hr0 (by simp [HM.cells])) 0 _ rfl; rw [e0] at this; exact this⟩
    obtain ⟨lx, hlxe⟩ : ∃ l, xs.length = l := ⟨_, rfl⟩
    obtain ⟨ld, hlde⟩ : ∃ l, ds.length = l := ⟨_, rfl⟩
    have HLX := Lib.hid hlxe
    have HD := Lib.hid hd
    have hal := (Below.refl wr.heap.size wr).alloc (Nat.le_refl _) (.cells #[.int .i64 v, .bool s, .slice a1 lx c1, .slice a2 ld c2] 51)
    obtain ⟨W6, hW6⟩ : ∃ W6, W6 = wr.alloc (.cells #[.int .i64 v, .bool s, .slice a1 lx c1, .slice a2 ld c2] 51) := ⟨_, rfl⟩
    rw [← hW6] at hal
    have HCR := Lib.hid (right_hand7 (s := s) (hh.kept hal) hlx hld)
    have hr4 : wr.rangeAt g (off + i * 4) [.int .i64 v, .bool s, .slice a1 xs.length c1, .slice a2 ds.length c2] := hr
    rw [hlxe, hlde] at HCR hr4
    have HKM : Hid (W6.heap[wr.heap.size]? = some (.cells #[.int .i64 v, .bool s, .slice a1 lx c1, .slice a2 ld c2] 51 (0, 0))) := Lib.hid (by rw [hW6]; exact heap_alloc_new wr _)
    have HB6 := Lib.hid (HB.out.trans (hal.mono HB.out.size))
    have HW6 := Lib.hid hW6
    have HAL := Lib.hid hal
    have HR := Lib.hid hR
    have HPV := Lib.hid (And.intro hp1 hp0)
    have hii : (i : Int) < (n : Int) := by omega
    have hiw : wrap64 ((i : Int) + 1) = (i : Int) + 1 := IntWalk.wrap64_in _ (by omega)
    clear hd hh hlx hld hr hR hp1 hp0 hpd hlxe hlde hal hW6 HT
    by_cases hv0 : v < 0
    ·have HE : Hid (rightP ps px pd hs = false) := Lib.hid (by unfold rightP; rw [HR.out, decide_eq_false (by have := HPV.out; omega : ¬ p < v)]; simp)
     have HK : Hid (∀ W, Below W6.heap.size W6 W → (fun W => W.cell? ⟨w.heap.size, 3, none⟩ = some (.slice (some ⟨g, off, none⟩) n cp) ∧ W.cell? ⟨wr.heap.size, 0, none⟩ = some (.int .i64 v) ∧ W.cell? ⟨wr.heap.size, 1, none⟩ = some (.bool s) ∧ W.cell? ⟨wr.heap.size, 2, none⟩ = some (.slice a1 lx c1) ∧ W.cell? ⟨wr.heap.size, 3, none⟩ = some (.slice a2 ld c2)) W) := Lib.hid fun W hW => by
      obtain ⟨_, _, _, c3', _⟩ := cellsL4 (stayL (stayL HBX.out HB6.out) hW)
      obtain ⟨m0, m1, m2, m3, _⟩ := cellsL4 (stayL HKM.out hW)
      exact ⟨c3', m0, m1, m2, m3⟩
     clear HPR
     clear HR HPV
     go_wp2_with (first | (refine wpList_val (.agg #[.int .i64 v, .bool s, .slice a1 lx c1, .slice a2 ld c2]) (run_load_op 51 (.tmp 19) (by with_reducible rfl) g (off + i * 4) (by rfl) _ _ hr4 Tryz.underlying51 rfl (by rw [size_mono]; rfl)) (by rfl) ?_) | (with_reducible refine wpList_alloc_agg rfl 51 rfl zMono zero_mono ?_) | (refine wpList_store_new rfl 51 (.tmp 4) (.tmp 20) (by with_reducible rfl) wr zMono #[.int .i64 v, .bool s, .slice a1 lx c1, .slice a2 ld c2] (by rfl) (by rfl) (by rfl) (by rw [size_mono]; rfl) (by rfl) (one_mono ⟨v, s, a1, lx, c1, a2, ld, c2⟩) ?_))
     rw [← HW6.out]
     refine wp_region_held_drew (S := (fun W => W.cell? ⟨w.heap.size, 3, none⟩ = some (.slice (some ⟨g, off, none⟩) n cp) ∧ W.cell? ⟨wr.heap.size, 0, none⟩ = some (.int .i64 v) ∧ W.cell? ⟨wr.heap.size, 1, none⟩ = some (.bool s) ∧ W.cell? ⟨wr.heap.size, 2, none⟩ = some (.slice a1 lx c1) ∧ W.cell? ⟨wr.heap.size, 3, none⟩ = some (.slice a2 ld c2))) (by kernel_rfl) ?_ (fun hHeld => ?_)
     ·exact HK.out _ (below_drew W6)
     refine tkV 0 hHeld ?_
     try simp only [Act.put, zA, zB, zC, zD, zE, zF]
     refine tkV 1 hHeld ?_
     try simp only [Act.put, zA, zB, zC, zD, zE, zF]
     refine tkV 2 hHeld ?_
     try simp only [Act.put, zA, zB, zC, zD, zE, zF]
     refine tkV 3 hHeld ?_
     try simp only [Act.put, zA, zB, zC, zD, zE, zF]
     refine tkR 4 hHeld ?_
     try simp only [Act.put, zA, zB, zC, zD, zE, zF]
     refine tkR 5 hHeld ?_
     try simp only [Act.put, zA, zB, zC, zD, zE, zF]
     refine tkR 6 hHeld ?_
     try simp only [Act.put, zA, zB, zC, zD, zE, zF]
     refine tkR 7 hHeld ?_
     try simp only [Act.put, zA, zB, zC, zD, zE, zF]
     refine tkR 8 hHeld ?_
     try simp only [Act.put, zA, zB, zC, zD, zE, zF]
     refine tkR 9 hHeld ?_
     try simp only [Act.put, zA, zB, zC, zD, zE, zF]
     refine tkR 10 hHeld ?_
     try simp only [Act.put, zA, zB, zC, zD, zE, zF]
     refine tkR 11 hHeld ?_
     try simp only [Act.put, zA, zB, zC, zD, zE, zF]
     refine tkR 12 hHeld ?_
     try simp only [Act.put, zA, zB, zC, zD, zE, zF]
     refine tkR 13 hHeld ?_
     try simp only [Act.put, zA, zB, zC, zD, zE, zF]
     refine tkR 14 hHeld ?_
     try simp only [Act.put, zA, zB, zC, zD, zE, zF]
     refine tkR 15 hHeld ?_
     try simp only [Act.put, zA, zB, zC, zD, zE, zF]
     refine tkR 16 hHeld ?_
     try simp only [Act.put, zA, zB, zC, zD, zE, zF]
     refine tkR 17 hHeld ?_
     try simp only [Act.put, zA, zB, zC, zD, zE, zF]
     refine tkV 18 hHeld ?_
     try simp only [Act.put, zA, zB, zC, zD, zE, zF]
     refine tkV 19 hHeld ?_
     try simp only [Act.put, zA, zB, zC, zD, zE, zF]
     refine tkR 20 hHeld ?_
     try simp only [Act.put, zA, zB, zC, zD, zE, zF]
     refine tkR 21 hHeld ?_
     try simp only [Act.put, zA, zB, zC, zD, zE, zF]
     refine tkR 22 hHeld ?_
     try simp only [Act.put, zA, zB, zC, zD, zE, zF]
     refine tkR 23 hHeld ?_
     try simp only [Act.put, zA, zB, zC, zD, zE, zF]
     refine tkV 24 hHeld ?_
     try simp only [Act.put, zA, zB, zC, zD, zE, zF]
     refine tkV 25 hHeld ?_
     try simp only [Act.put, zA, zB, zC, zD, zE, zF]
     refine tkR 26 hHeld ?_
     try simp only [Act.put, zA, zB, zC, zD, zE, zF]
     refine tkR 27 hHeld ?_
     try simp only [Act.put, zA, zB, zC, zD, zE, zF]
     refine tkR 28 hHeld ?_
     try simp only [Act.put, zA, zB, zC, zD, zE, zF]
     refine tkR 29 hHeld ?_
     try simp only [Act.put, zA, zB, zC, zD, zE, zF]
     refine tkR 30 hHeld ?_
     try simp only [Act.put, zA, zB, zC, zD, zE, zF]
     refine tkR 31 hHeld ?_
     try simp only [Act.put, zA, zB, zC, zD, zE, zF]
     refine tkV 32 hHeld ?_
     try simp only [Act.put, zA, zB, zC, zD, zE, zF]
     refine wpAnyH_done (by kernel_rfl) ?_ _
     clear hHeld
     go_wp2_with fail
     go_ret
     exact GivesV.mk' (by rw [HE.out]; rfl) (HB0.out.trans (HB6.out.drew.mono HB0.out.size))
    ·by_cases hpv : p < v
     ·by_cases hi0 : i = 0
      ·subst hi0
       rw [Nat.zero_mul, Nat.add_zero] at hr4
       have hii : (0 : Int) < (n : Int) := by omega
       have HK : Hid (∀ W, Below W6.heap.size W6 W → (fun W => W.cell? ⟨w.heap.size, 3, none⟩ = some (.slice (some ⟨g, off, none⟩) n cp) ∧ W.cell? ⟨wr.heap.size, 0, none⟩ = some (.int .i64 v) ∧ W.cell? ⟨wr.heap.size, 1, none⟩ = some (.bool s) ∧ W.cell? ⟨wr.heap.size, 2, none⟩ = some (.slice a1 lx c1) ∧ W.cell? ⟨wr.heap.size, 3, none⟩ = some (.slice a2 ld c2)) W) := Lib.hid fun W hW => by
        obtain ⟨_, _, _, c3', _⟩ := cellsL4 (stayL (stayL HBX.out HB6.out) hW)
        obtain ⟨m0, m1, m2, m3, _⟩ := cellsL4 (stayL HKM.out hW)
        exact ⟨c3', m0, m1, m2, m3⟩
       clear HPR
       cases hrt : rightB s xs ds
       ·have HE : Hid (rightP ps px pd hs = false) := Lib.hid (by unfold rightP; rw [HR.out, hrt]; simp)
        rw [hrt] at HCR
        clear hrt
        clear HR HPV
        go_wp2_with (first | (refine wpList_val (.agg #[.int .i64 v, .bool s, .slice a1 lx c1, .slice a2 ld c2]) (run_load_op 51 (.tmp 19) (by with_reducible rfl) g (off) (by rfl) _ _ hr4 Tryz.underlying51 rfl (by rw [size_mono]; rfl)) (by rfl) ?_) | (with_reducible refine wpList_alloc_agg rfl 51 rfl zMono zero_mono ?_) | (refine wpList_store_new rfl 51 (.tmp 4) (.tmp 20) (by with_reducible rfl) wr zMono #[.int .i64 v, .bool s, .slice a1 lx c1, .slice a2 ld c2] (by rfl) (by rfl) (by rfl) (by rw [size_mono]; rfl) (by rfl) (one_mono ⟨v, s, a1, lx, c1, a2, ld, c2⟩) ?_))
        rw [← HW6.out]
        refine wp_region_held_drew (S := (fun W => W.cell? ⟨w.heap.size, 3, none⟩ = some (.slice (some ⟨g, off, none⟩) n cp) ∧ W.cell? ⟨wr.heap.size, 0, none⟩ = some (.int .i64 v) ∧ W.cell? ⟨wr.heap.size, 1, none⟩ = some (.bool s) ∧ W.cell? ⟨wr.heap.size, 2, none⟩ = some (.slice a1 lx c1) ∧ W.cell? ⟨wr.heap.size, 3, none⟩ = some (.slice a2 ld c2))) (by kernel_rfl) ?_ (fun hHeld => ?_)
        ·exact HK.out _ (below_drew W6)
        refine tkV 0 hHeld ?_
        try simp only [Act.put, zA, zB, zC, zD, zE, zF]
        refine tkV 1 hHeld ?_
        try simp only [Act.put, zA, zB, zC, zD, zE, zF]
        refine tkL 2 (v := .bool false) ?_ hHeld ?_
        ·intro w' hSw
         go_simp
         try first | done | omega | exact hv0 | (simp; omega)
        try simp only [Act.put, zA, zB, zC, zD, zE, zF]
        refine tkV 3 hHeld ?_
        try simp only [Act.put, zA, zB, zC, zD, zE, zF]
        refine tkV 4 hHeld ?_
        try simp only [Act.put, zA, zB, zC, zD, zE, zF]
        refine tkV 5 hHeld ?_
        try simp only [Act.put, zA, zB, zC, zD, zE, zF]
        refine tkV 6 hHeld ?_
        try simp only [Act.put, zA, zB, zC, zD, zE, zF]
        refine tkR 7 hHeld ?_
        try simp only [Act.put, zA, zB, zC, zD, zE, zF]
        refine tkR 8 hHeld ?_
        try simp only [Act.put, zA, zB, zC, zD, zE, zF]
        refine tkR 9 hHeld ?_
        try simp only [Act.put, zA, zB, zC, zD, zE, zF]
        refine tkR 10 hHeld ?_
        try simp only [Act.put, zA, zB, zC, zD, zE, zF]
        refine tkR 11 hHeld ?_
        try simp only [Act.put, zA, zB, zC, zD, zE, zF]
        refine tkR 12 hHeld ?_
        try simp only [Act.put, zA, zB, zC, zD, zE, zF]
        refine tkR 13 hHeld ?_
        try simp only [Act.put, zA, zB, zC, zD, zE, zF]
        refine tkR 14 hHeld ?_
        try simp only [Act.put, zA, zB, zC, zD, zE, zF]
        refine tkR 15 hHeld ?_
        try simp only [Act.put, zA, zB, zC, zD, zE, zF]
        refine tkR 16 hHeld ?_
        try simp only [Act.put, zA, zB, zC, zD, zE, zF]
        refine tkV 17 hHeld ?_
        try simp only [Act.put, zA, zB, zC, zD, zE, zF]
        refine tkV 18 hHeld ?_
        try simp only [Act.put, zA, zB, zC, zD, zE, zF]
        refine tkV 19 hHeld ?_
        try simp only [Act.put, zA, zB, zC, zD, zE, zF]
        refine tkV 20 hHeld ?_
        try simp only [Act.put, zA, zB, zC, zD, zE, zF]
        refine tkV 21 hHeld ?_
        try simp only [Act.put, zA, zB, zC, zD, zE, zF]
        refine rdy [22] ?_
        refine AllReadyH.cons (by rfl) (fun K hK => ?_) AllReadyH.nil
        go_simp
        refine HCR.out.mono ?_
        rintro e w7 ⟨rfl, hb7⟩
        have HB7 := Lib.hid (HB6.out.trans (hb7.out.mono HB6.out.size))
        have HS7 := Lib.hid (HK.out _ hb7.out)
        clear hb7
        refine hK.out _ _ ?_ (fun hHeld => ?_)
        ·exact HS7.out
        clear hK K
        try simp only [Act.put, zA, zB, zC, zD, zE, zF]
        refine tkV 23 hHeld ?_
        try simp only [Act.put, zA, zB, zC, zD, zE, zF]
        refine tkV 24 hHeld ?_
        try simp only [Act.put, zA, zB, zC, zD, zE, zF]
        refine tkV 25 hHeld ?_
        try simp only [Act.put, zA, zB, zC, zD, zE, zF]
        refine tkR 26 hHeld ?_
        try simp only [Act.put, zA, zB, zC, zD, zE, zF]
        refine tkR 27 hHeld ?_
        try simp only [Act.put, zA, zB, zC, zD, zE, zF]
        refine tkR 28 hHeld ?_
        try simp only [Act.put, zA, zB, zC, zD, zE, zF]
        refine tkR 29 hHeld ?_
        try simp only [Act.put, zA, zB, zC, zD, zE, zF]
        refine tkR 30 hHeld ?_
        try simp only [Act.put, zA, zB, zC, zD, zE, zF]
        refine tkR 31 hHeld ?_
        try simp only [Act.put, zA, zB, zC, zD, zE, zF]
        refine tkV 32 hHeld ?_
        try simp only [Act.put, zA, zB, zC, zD, zE, zF]
        refine wpAnyH_done (by kernel_rfl) ?_ _
        clear hHeld HS7
        go_wp2_with fail
        go_ret
        exact GivesV.mk' (by rw [HE.out]; rfl) (HB0.out.trans (HB7.out.mono HB0.out.size))
       ·by_cases hx0 : lx = 0
        ·have HE : Hid (rightP ps px pd hs = false) := Lib.hid (by unfold rightP; rw [HR.out, HLX.out, decide_eq_false (fun h : lx ≠ 0 => h hx0)]; simp)
         have hz : ((lx : Int) == 0) = true := by simpa using hx0
         rw [hrt] at HCR
         clear hrt hx0
         clear HR HPV
         go_wp2_with (first | (refine wpList_val (.agg #[.int .i64 v, .bool s, .slice a1 lx c1, .slice a2 ld c2]) (run_load_op 51 (.tmp 19) (by with_reducible rfl) g (off) (by rfl) _ _ hr4 Tryz.underlying51 rfl (by rw [size_mono]; rfl)) (by rfl) ?_) | (with_reducible refine wpList_alloc_agg rfl 51 rfl zMono zero_mono ?_) | (refine wpList_store_new rfl 51 (.tmp 4) (.tmp 20) (by with_reducible rfl) wr zMono #[.int .i64 v, .bool s, .slice a1 lx c1, .slice a2 ld c2] (by rfl) (by rfl) (by rfl) (by rw [size_mono]; rfl) (by rfl) (one_mono ⟨v, s, a1, lx, c1, a2, ld, c2⟩) ?_))
         rw [← HW6.out]
         refine wp_region_held_drew (S := (fun W => W.cell? ⟨w.heap.size, 3, none⟩ = some (.slice (some ⟨g, off, none⟩) n cp) ∧ W.cell? ⟨wr.heap.size, 0, none⟩ = some (.int .i64 v) ∧ W.cell? ⟨wr.heap.size, 1, none⟩ = some (.bool s) ∧ W.cell? ⟨wr.heap.size, 2, none⟩ = some (.slice a1 lx c1) ∧ W.cell? ⟨wr.heap.size, 3, none⟩ = some (.slice a2 ld c2))) (by kernel_rfl) ?_ (fun hHeld => ?_)
         ·exact HK.out _ (below_drew W6)
         refine tkV 0 hHeld ?_
         try simp only [Act.put, zA, zB, zC, zD, zE, zF]
         refine tkV 1 hHeld ?_
         try simp only [Act.put, zA, zB, zC, zD, zE, zF]
         refine tkL 2 (v := .bool false) ?_ hHeld ?_
         ·intro w' hSw
          go_simp
          try first | done | omega | exact hv0 | (simp; omega)
         try simp only [Act.put, zA, zB, zC, zD, zE, zF]
         refine tkV 3 hHeld ?_
         try simp only [Act.put, zA, zB, zC, zD, zE, zF]
         refine tkV 4 hHeld ?_
         try simp only [Act.put, zA, zB, zC, zD, zE, zF]
         refine tkV 5 hHeld ?_
         try simp only [Act.put, zA, zB, zC, zD, zE, zF]
         refine tkV 6 hHeld ?_
         try simp only [Act.put, zA, zB, zC, zD, zE, zF]
         refine tkR 7 hHeld ?_
         try simp only [Act.put, zA, zB, zC, zD, zE, zF]
         refine tkR 8 hHeld ?_
         try simp only [Act.put, zA, zB, zC, zD, zE, zF]
         refine tkR 9 hHeld ?_
         try simp only [Act.put, zA, zB, zC, zD, zE, zF]
         refine tkR 10 hHeld ?_
         try simp only [Act.put, zA, zB, zC, zD, zE, zF]
         refine tkR 11 hHeld ?_
         try simp only [Act.put, zA, zB, zC, zD, zE, zF]
         refine tkR 12 hHeld ?_
         try simp only [Act.put, zA, zB, zC, zD, zE, zF]
         refine tkR 13 hHeld ?_
         try simp only [Act.put, zA, zB, zC, zD, zE, zF]
         refine tkR 14 hHeld ?_
         try simp only [Act.put, zA, zB, zC, zD, zE, zF]
         refine tkR 15 hHeld ?_
         try simp only [Act.put, zA, zB, zC, zD, zE, zF]
         refine tkR 16 hHeld ?_
         try simp only [Act.put, zA, zB, zC, zD, zE, zF]
         refine tkV 17 hHeld ?_
         try simp only [Act.put, zA, zB, zC, zD, zE, zF]
         refine tkV 18 hHeld ?_
         try simp only [Act.put, zA, zB, zC, zD, zE, zF]
         refine tkV 19 hHeld ?_
         try simp only [Act.put, zA, zB, zC, zD, zE, zF]
         refine tkV 20 hHeld ?_
         try simp only [Act.put, zA, zB, zC, zD, zE, zF]
         refine tkV 21 hHeld ?_
         try simp only [Act.put, zA, zB, zC, zD, zE, zF]
         refine rdy [22] ?_
         refine AllReadyH.cons (by rfl) (fun K hK => ?_) AllReadyH.nil
         go_simp
         refine HCR.out.mono ?_
         rintro e w7 ⟨rfl, hb7⟩
         have HB7 := Lib.hid (HB6.out.trans (hb7.out.mono HB6.out.size))
         have HS7 := Lib.hid (HK.out _ hb7.out)
         clear hb7
         refine hK.out _ _ ?_ (fun hHeld => ?_)
         ·exact HS7.out
         clear hK K
         try simp only [Act.put, zA, zB, zC, zD, zE, zF]
         refine tkV 23 hHeld ?_
         try simp only [Act.put, zA, zB, zC, zD, zE, zF]
         refine tkV 24 hHeld ?_
         try simp only [Act.put, zA, zB, zC, zD, zE, zF]
         refine tkV 25 hHeld ?_
         try simp only [Act.put, zA, zB, zC, zD, zE, zF]
         refine tkV 26 hHeld ?_
         try simp only [Act.put, zA, zB, zC, zD, zE, zF]
         refine tkV 27 hHeld ?_
         try simp only [Act.put, zA, zB, zC, zD, zE, zF]
         refine tkV 28 hHeld ?_
         try simp only [Act.put, zA, zB, zC, zD, zE, zF]
         refine tkV 29 hHeld ?_
         try simp only [Act.put, zA, zB, zC, zD, zE, zF]
         refine tkV 30 hHeld ?_
         try simp only [Act.put, zA, zB, zC, zD, zE, zF]
         refine tkL 31 (v := .bool true) ?_ hHeld ?_
         ·intro w' hSw
          go_simp
          try first | done | omega | exact hv0 | (simp; omega)
         try simp only [Act.put, zA, zB, zC, zD, zE, zF]
         refine tkV 32 hHeld ?_
         try simp only [Act.put, zA, zB, zC, zD, zE, zF]
         refine wpAnyH_done (by kernel_rfl) ?_ _
         clear hHeld HS7
         go_wp2_with fail
         go_ret
         exact GivesV.mk' (by rw [HE.out]; rfl) (HB0.out.trans (HB7.out.mono HB0.out.size))
        ·have HT : Hid (rightMs (-1) hs = rightMs v (hs.drop 1) ∧ -1 ≤ v ∧ (1 = 0 → v = -1) ∧ ∀ j d, 1 = j + 1 → hs[j]? = some d → d.v = v) := Lib.hid ⟨(by rw [HR.out, HLX.out, hrt, decide_eq_true hpv, decide_eq_true (show lx ≠ 0 from hx0)]; simp), (by have := HPV.out; omega), (by omega), prev_next HD.out⟩
         have hz : ((lx : Int) == 0) = false := by simpa using hx0
         rw [hrt] at HCR
         clear hrt hx0
         clear HR HPV
         go_wp2_with (first | (refine wpList_val (.agg #[.int .i64 v, .bool s, .slice a1 lx c1, .slice a2 ld c2]) (run_load_op 51 (.tmp 19) (by with_reducible rfl) g (off) (by rfl) _ _ hr4 Tryz.underlying51 rfl (by rw [size_mono]; rfl)) (by rfl) ?_) | (with_reducible refine wpList_alloc_agg rfl 51 rfl zMono zero_mono ?_) | (refine wpList_store_new rfl 51 (.tmp 4) (.tmp 20) (by with_reducible rfl) wr zMono #[.int .i64 v, .bool s, .slice a1 lx c1, .slice a2 ld c2] (by rfl) (by rfl) (by rfl) (by rw [size_mono]; rfl) (by rfl) (one_mono ⟨v, s, a1, lx, c1, a2, ld, c2⟩) ?_))
         rw [← HW6.out]
         refine wp_region_held_drew (S := (fun W => W.cell? ⟨w.heap.size, 3, none⟩ = some (.slice (some ⟨g, off, none⟩) n cp) ∧ W.cell? ⟨wr.heap.size, 0, none⟩ = some (.int .i64 v) ∧ W.cell? ⟨wr.heap.size, 1, none⟩ = some (.bool s) ∧ W.cell? ⟨wr.heap.size, 2, none⟩ = some (.slice a1 lx c1) ∧ W.cell? ⟨wr.heap.size, 3, none⟩ = some (.slice a2 ld c2))) (by kernel_rfl) ?_ (fun hHeld => ?_)
         ·exact HK.out _ (below_drew W6)
         refine tkV 0 hHeld ?_
         try simp only [Act.put, zA, zB, zC, zD, zE, zF]
         refine tkV 1 hHeld ?_
         try simp only [Act.put, zA, zB, zC, zD, zE, zF]
         refine tkL 2 (v := .bool false) ?_ hHeld ?_
         ·intro w' hSw
          go_simp
          try first | done | omega | exact hv0 | (simp; omega)
         try simp only [Act.put, zA, zB, zC, zD, zE, zF]
         refine tkV 3 hHeld ?_
         try simp only [Act.put, zA, zB, zC, zD, zE, zF]
         refine tkV 4 hHeld ?_
         try simp only [Act.put, zA, zB, zC, zD, zE, zF]
         refine tkV 5 hHeld ?_
         try simp only [Act.put, zA, zB, zC, zD, zE, zF]
         refine tkV 6 hHeld ?_
         try simp only [Act.put, zA, zB, zC, zD, zE, zF]
         refine tkR 7 hHeld ?_
         try simp only [Act.put, zA, zB, zC, zD, zE, zF]
         refine tkR 8 hHeld ?_
         try simp only [Act.put, zA, zB, zC, zD, zE, zF]
         refine tkR 9 hHeld ?_
         try simp only [Act.put, zA, zB, zC, zD, zE, zF]
         refine tkR 10 hHeld ?_
         try simp only [Act.put, zA, zB, zC, zD, zE, zF]
         refine tkR 11 hHeld ?_
         try simp only [Act.put, zA, zB, zC, zD, zE, zF]
         refine tkR 12 hHeld ?_
         try simp only [Act.put, zA, zB, zC, zD, zE, zF]
         refine tkR 13 hHeld ?_
         try simp only [Act.put, zA, zB, zC, zD, zE, zF]
         refine tkR 14 hHeld ?_
         try simp only [Act.put, zA, zB, zC, zD, zE, zF]
         refine tkR 15 hHeld ?_
         try simp only [Act.put, zA, zB, zC, zD, zE, zF]
         refine tkR 16 hHeld ?_
         try simp only [Act.put, zA, zB, zC, zD, zE, zF]
         refine tkV 17 hHeld ?_
         try simp only [Act.put, zA, zB, zC, zD, zE, zF]
         refine tkV 18 hHeld ?_
         try simp only [Act.put, zA, zB, zC, zD, zE, zF]
         refine tkV 19 hHeld ?_
         try simp only [Act.put, zA, zB, zC, zD, zE, zF]
         refine tkV 20 hHeld ?_
         try simp only [Act.put, zA, zB, zC, zD, zE, zF]
         refine tkV 21 hHeld ?_
         try simp only [Act.put, zA, zB, zC, zD, zE, zF]
         refine rdy [22] ?_
         refine AllReadyH.cons (by rfl) (fun K hK => ?_) AllReadyH.nil
         go_simp
         refine HCR.out.mono ?_
         rintro e w7 ⟨rfl, hb7⟩
         have HB7 := Lib.hid (HB6.out.trans (hb7.out.mono HB6.out.size))
         have HS7 := Lib.hid (HK.out _ hb7.out)
         clear hb7
         refine hK.out _ _ ?_ (fun hHeld => ?_)
         ·exact HS7.out
         clear hK K
         try simp only [Act.put, zA, zB, zC, zD, zE, zF]
         refine tkV 23 hHeld ?_
         try simp only [Act.put, zA, zB, zC, zD, zE, zF]
         refine tkV 24 hHeld ?_
         try simp only [Act.put, zA, zB, zC, zD, zE, zF]
         refine tkV 25 hHeld ?_
         try simp only [Act.put, zA, zB, zC, zD, zE, zF]
         refine tkV 26 hHeld ?_
         try simp only [Act.put, zA, zB, zC, zD, zE, zF]
         refine tkV 27 hHeld ?_
         try simp only [Act.put, zA, zB, zC, zD, zE, zF]
         refine tkV 28 hHeld ?_
         try simp only [Act.put, zA, zB, zC, zD, zE, zF]
         refine tkV 29 hHeld ?_
         try simp only [Act.put, zA, zB, zC, zD, zE, zF]
         refine tkV 30 hHeld ?_
         try simp only [Act.put, zA, zB, zC, zD, zE, zF]
         refine tkL 31 (v := .bool false) ?_ hHeld ?_
         ·intro w' hSw
          go_simp
          try first | done | omega | exact hv0 | (simp; omega)
         try simp only [Act.put, zA, zB, zC, zD, zE, zF]
         refine tkV 32 hHeld ?_
         try simp only [Act.put, zA, zB, zC, zD, zE, zF]
         refine wpAnyH_done (by kernel_rfl) ?_ _
         clear hHeld HS7
         go_wp2_with fail
         go_roundw
         case rel => exact ⟨1, v, by omega, by go_num, HB7, HT⟩
         case measure => first | exact measure_next hiw hlt | exact measure_next rfl hlt
      ·obtain ⟨j, hj⟩ : ∃ j, i = j + 1 := ⟨i - 1, by omega⟩
       obtain ⟨d0, hd0, hv0', hcell⟩ := HPR.out j hj
       obtain ⟨v0, hv00⟩ : ∃ v0, v0 = p := ⟨_, rfl⟩
       rw [← hv00] at hcell
       have hi1 : (0 : Int) < (i : Int) := by omega
       have hjw : wrap64 ((i : Int) - 1) = (j : Int) := by rw [IntWalk.wrap64_in _ (by omega)]; omega
       have hjw2 : IntKind.i64.wrap ((i : Int) - 1) = (j : Int) := (IntWalk.i64_left _).trans hjw
       have hj0 : (0 : Int) ≤ (j : Int) := by omega
       have hjn : (j : Int) < (n : Int) := by omega
       have HK : Hid (∀ W, Below W6.heap.size W6 W → (fun W => W.cell? ⟨w.heap.size, 3, none⟩ = some (.slice (some ⟨g, off, none⟩) n cp) ∧ W.cell? ⟨wr.heap.size, 0, none⟩ = some (.int .i64 v) ∧ W.cell? ⟨wr.heap.size, 1, none⟩ = some (.bool s) ∧ W.cell? ⟨wr.heap.size, 2, none⟩ = some (.slice a1 lx c1) ∧ W.cell? ⟨wr.heap.size, 3, none⟩ = some (.slice a2 ld c2) ∧ W.cell? ⟨g, off + j * 4, none⟩ = some (.int .i64 v0)) W) := Lib.hid fun W hW => by
        obtain ⟨_, _, _, c3', _⟩ := cellsL4 (stayL (stayL HBX.out HB6.out) hW)
        obtain ⟨m0, m1, m2, m3, _⟩ := cellsL4 (stayL HKM.out hW)
        exact ⟨c3', m0, m1, m2, m3, hcell W (HAL.out.trans (hW.mono HAL.out.size))⟩
       have hjj := hj
       clear HPR hcell hd0 hv0'
       have hle : ¬ v ≤ v0 := by omega
       clear hv00 hj hjj hi0
       cases hrt : rightB s xs ds
       ·have HE : Hid (rightP ps px pd hs = false) := Lib.hid (by unfold rightP; rw [HR.out, hrt]; simp)
        rw [hrt] at HCR
        clear hrt
        clear HR HPV
        go_wp2_with (first | (refine wpList_val (.agg #[.int .i64 v, .bool s, .slice a1 lx c1, .slice a2 ld c2]) (run_load_op 51 (.tmp 19) (by with_reducible rfl) g (off + i * 4) (by rfl) _ _ hr4 Tryz.underlying51 rfl (by rw [size_mono]; rfl)) (by rfl) ?_) | (with_reducible refine wpList_alloc_agg rfl 51 rfl zMono zero_mono ?_) | (refine wpList_store_new rfl 51 (.tmp 4) (.tmp 20) (by with_reducible rfl) wr zMono #[.int .i64 v, .bool s, .slice a1 lx c1, .slice a2 ld c2] (by rfl) (by rfl) (by rfl) (by rw [size_mono]; rfl) (by rfl) (one_mono ⟨v, s, a1, lx, c1, a2, ld, c2⟩) ?_))
        rw [← HW6.out]
        refine wp_region_held_drew (S := (fun W => W.cell? ⟨w.heap.size, 3, none⟩ = some (.slice (some ⟨g, off, none⟩) n cp) ∧ W.cell? ⟨wr.heap.size, 0, none⟩ = some (.int .i64 v) ∧ W.cell? ⟨wr.heap.size, 1, none⟩ = some (.bool s) ∧ W.cell? ⟨wr.heap.size, 2, none⟩ = some (.slice a1 lx c1) ∧ W.cell? ⟨wr.heap.size, 3, none⟩ = some (.slice a2 ld c2) ∧ W.cell? ⟨g, off + j * 4, none⟩ = some (.int .i64 v0))) (by kernel_rfl) ?_ (fun hHeld => ?_)
        ·exact HK.out _ (below_drew W6)
        refine tkV 0 hHeld ?_
        try simp only [Act.put, zA, zB, zC, zD, zE, zF]
        refine tkV 1 hHeld ?_
        try simp only [Act.put, zA, zB, zC, zD, zE, zF]
        refine tkL 2 (v := .bool false) ?_ hHeld ?_
        ·intro w' hSw
         go_simp
         try first | done | omega | exact hv0 | (simp; omega)
        try simp only [Act.put, zA, zB, zC, zD, zE, zF]
        refine tkV 3 hHeld ?_
        try simp only [Act.put, zA, zB, zC, zD, zE, zF]
        refine tkV 4 hHeld ?_
        try simp only [Act.put, zA, zB, zC, zD, zE, zF]
        refine tkL 5 (v := .bool true) ?_ hHeld ?_
        ·intro w' hSw
         go_simp
         try first | done | omega | exact hv0 | (simp; omega)
        try simp only [Act.put, zA, zB, zC, zD, zE, zF]
        refine tkV 6 hHeld ?_
        try simp only [Act.put, zA, zB, zC, zD, zE, zF]
        refine tkV 7 hHeld ?_
        try simp only [Act.put, zA, zB, zC, zD, zE, zF]
        refine tkV 8 hHeld ?_
        try simp only [Act.put, zA, zB, zC, zD, zE, zF]
        refine tkV 9 hHeld ?_
        try simp only [Act.put, zA, zB, zC, zD, zE, zF]
        refine tkV 10 hHeld ?_
        try simp only [Act.put, zA, zB, zC, zD, zE, zF]
        refine tkV 11 hHeld ?_
        try simp only [Act.put, zA, zB, zC, zD, zE, zF]
        refine tkV 12 hHeld ?_
        try simp only [Act.put, zA, zB, zC, zD, zE, zF]
        refine tkV 13 hHeld ?_
        try simp only [Act.put, zA, zB, zC, zD, zE, zF]
        refine tkV 14 hHeld ?_
        try simp only [Act.put, zA, zB, zC, zD, zE, zF]
        refine tkV 15 hHeld ?_
        try simp only [Act.put, zA, zB, zC, zD, zE, zF]
        refine tkL 16 (v := .bool false) ?_ hHeld ?_
        ·intro w' hSw
         go_simp
         try first | done | omega | exact hv0 | (simp; omega)
        try simp only [Act.put, zA, zB, zC, zD, zE, zF]
        refine tkV 17 hHeld ?_
        try simp only [Act.put, zA, zB, zC, zD, zE, zF]
        refine tkV 18 hHeld ?_
        try simp only [Act.put, zA, zB, zC, zD, zE, zF]
        refine tkV 19 hHeld ?_
        try simp only [Act.put, zA, zB, zC, zD, zE, zF]
        refine tkV 20 hHeld ?_
        try simp only [Act.put, zA, zB, zC, zD, zE, zF]
        refine tkV 21 hHeld ?_
        try simp only [Act.put, zA, zB, zC, zD, zE, zF]
        refine rdy [22] ?_
        refine AllReadyH.cons (by rfl) (fun K hK => ?_) AllReadyH.nil
        go_simp
        refine HCR.out.mono ?_
        rintro e w7 ⟨rfl, hb7⟩
        have HB7 := Lib.hid (HB6.out.trans (hb7.out.mono HB6.out.size))
        have HS7 := Lib.hid (HK.out _ hb7.out)
        clear hb7
        refine hK.out _ _ ?_ (fun hHeld => ?_)
        ·exact HS7.out
        clear hK K
        try simp only [Act.put, zA, zB, zC, zD, zE, zF]
        refine tkV 23 hHeld ?_
        try simp only [Act.put, zA, zB, zC, zD, zE, zF]
        refine tkV 24 hHeld ?_
        try simp only [Act.put, zA, zB, zC, zD, zE, zF]
        refine tkV 25 hHeld ?_
        try simp only [Act.put, zA, zB, zC, zD, zE, zF]
        refine tkR 26 hHeld ?_
        try simp only [Act.put, zA, zB, zC, zD, zE, zF]
        refine tkR 27 hHeld ?_
        try simp only [Act.put, zA, zB, zC, zD, zE, zF]
        refine tkR 28 hHeld ?_
        try simp only [Act.put, zA, zB, zC, zD, zE, zF]
        refine tkR 29 hHeld ?_
        try simp only [Act.put, zA, zB, zC, zD, zE, zF]
        refine tkR 30 hHeld ?_
        try simp only [Act.put, zA, zB, zC, zD, zE, zF]
        refine tkR 31 hHeld ?_
        try simp only [Act.put, zA, zB, zC, zD, zE, zF]
        refine tkV 32 hHeld ?_
        try simp only [Act.put, zA, zB, zC, zD, zE, zF]
        refine wpAnyH_done (by kernel_rfl) ?_ _
        clear hHeld HS7
        go_wp2_with fail
        go_ret
        exact GivesV.mk' (by rw [HE.out]; rfl) (HB0.out.trans (HB7.out.mono HB0.out.size))
       ·by_cases hx0 : lx = 0
        ·have HE : Hid (rightP ps px pd hs = false) := Lib.hid (by unfold rightP; rw [HR.out, HLX.out, decide_eq_false (fun h : lx ≠ 0 => h hx0)]; simp)
         have hz : ((lx : Int) == 0) = true := by simpa using hx0
         rw [hrt] at HCR
         clear hrt hx0
         clear HR HPV
         go_wp2_with (first | (refine wpList_val (.agg #[.int .i64 v, .bool s, .slice a1 lx c1, .slice a2 ld c2]) (run_load_op 51 (.tmp 19) (by with_reducible rfl) g (off + i * 4) (by rfl) _ _ hr4 Tryz.underlying51 rfl (by rw [size_mono]; rfl)) (by rfl) ?_) | (with_reducible refine wpList_alloc_agg rfl 51 rfl zMono zero_mono ?_) | (refine wpList_store_new rfl 51 (.tmp 4) (.tmp 20) (by with_reducible rfl) wr zMono #[.int .i64 v, .bool s, .slice a1 lx c1, .slice a2 ld c2] (by rfl) (by rfl) (by rfl) (by rw [size_mono]; rfl) (by rfl) (one_mono ⟨v, s, a1, lx, c1, a2, ld, c2⟩) ?_))
         rw [← HW6.out]
         refine wp_region_held_drew (S := (fun W => W.cell? ⟨w.heap.size, 3, none⟩ = some (.slice (some ⟨g, off, none⟩) n cp) ∧ W.cell? ⟨wr.heap.size, 0, none⟩ = some (.int .i64 v) ∧ W.cell? ⟨wr.heap.size, 1, none⟩ = some (.bool s) ∧ W.cell? ⟨wr.heap.size, 2, none⟩ = some (.slice a1 lx c1) ∧ W.cell? ⟨wr.heap.size, 3, none⟩ = some (.slice a2 ld c2) ∧ W.cell? ⟨g, off + j * 4, none⟩ = some (.int .i64 v0))) (by kernel_rfl) ?_ (fun hHeld => ?_)
         ·exact HK.out _ (below_drew W6)
         refine tkV 0 hHeld ?_
         try simp only [Act.put, zA, zB, zC, zD, zE, zF]
         refine tkV 1 hHeld ?_
         try simp only [Act.put, zA, zB, zC, zD, zE, zF]
         refine tkL 2 (v := .bool false) ?_ hHeld ?_
         ·intro w' hSw
          go_simp
          try first | done | omega | exact hv0 | (simp; omega)
         try simp only [Act.put, zA, zB, zC, zD, zE, zF]
         refine tkV 3 hHeld ?_
         try simp only [Act.put, zA, zB, zC, zD, zE, zF]
         refine tkV 4 hHeld ?_
         try simp only [Act.put, zA, zB, zC, zD, zE, zF]
         refine tkL 5 (v := .bool true) ?_ hHeld ?_
         ·intro w' hSw
          go_simp
          try first | done | omega | exact hv0 | (simp; omega)
         try simp only [Act.put, zA, zB, zC, zD, zE, zF]
         refine tkV 6 hHeld ?_
         try simp only [Act.put, zA, zB, zC, zD, zE, zF]
         refine tkV 7 hHeld ?_
         try simp only [Act.put, zA, zB, zC, zD, zE, zF]
         refine tkV 8 hHeld ?_
         try simp only [Act.put, zA, zB, zC, zD, zE, zF]
         refine tkV 9 hHeld ?_
         try simp only [Act.put, zA, zB, zC, zD, zE, zF]
         refine tkV 10 hHeld ?_
         try simp only [Act.put, zA, zB, zC, zD, zE, zF]
         refine tkV 11 hHeld ?_
         try simp only [Act.put, zA, zB, zC, zD, zE, zF]
         refine tkV 12 hHeld ?_
         try simp only [Act.put, zA, zB, zC, zD, zE, zF]
         refine tkV 13 hHeld ?_
         try simp only [Act.put, zA, zB, zC, zD, zE, zF]
         refine tkV 14 hHeld ?_
         try simp only [Act.put, zA, zB, zC, zD, zE, zF]
         refine tkV 15 hHeld ?_
         try simp only [Act.put, zA, zB, zC, zD, zE, zF]
         refine tkL 16 (v := .bool false) ?_ hHeld ?_
         ·intro w' hSw
          go_simp
          try first | done | omega | exact hv0 | (simp; omega)
         try simp only [Act.put, zA, zB, zC, zD, zE, zF]
         refine tkV 17 hHeld ?_
         try simp only [Act.put, zA, zB, zC, zD, zE, zF]
         refine tkV 18 hHeld ?_
         try simp only [Act.put, zA, zB, zC, zD, zE, zF]
         refine tkV 19 hHeld ?_
         try simp only [Act.put, zA, zB, zC, zD, zE, zF]
         refine tkV 20 hHeld ?_
         try simp only [Act.put, zA, zB, zC, zD, zE, zF]
         refine tkV 21 hHeld ?_
         try simp only [Act.put, zA, zB, zC, zD, zE, zF]
         refine rdy [22] ?_
         refine AllReadyH.cons (by rfl) (fun K hK => ?_) AllReadyH.nil
         go_simp
         refine HCR.out.mono ?_
         rintro e w7 ⟨rfl, hb7⟩
         have HB7 := Lib.hid (HB6.out.trans (hb7.out.mono HB6.out.size))
         have HS7 := Lib.hid (HK.out _ hb7.out)
         clear hb7
         refine hK.out _ _ ?_ (fun hHeld => ?_)
         ·exact HS7.out
         clear hK K
         try simp only [Act.put, zA, zB, zC, zD, zE, zF]
         refine tkV 23 hHeld ?_
         try simp only [Act.put, zA, zB, zC, zD, zE, zF]
         refine tkV 24 hHeld ?_
         try simp only [Act.put, zA, zB, zC, zD, zE, zF]
         refine tkV 25 hHeld ?_
         try simp only [Act.put, zA, zB, zC, zD, zE, zF]
         refine tkV 26 hHeld ?_
         try simp only [Act.put, zA, zB, zC, zD, zE, zF]
         refine tkV 27 hHeld ?_
         try simp only [Act.put, zA, zB, zC, zD, zE, zF]
         refine tkV 28 hHeld ?_
         try simp only [Act.put, zA, zB, zC, zD, zE, zF]
         refine tkV 29 hHeld ?_
         try simp only [Act.put, zA, zB, zC, zD, zE, zF]
         refine tkV 30 hHeld ?_
         try simp only [Act.put, zA, zB, zC, zD, zE, zF]
         refine tkL 31 (v := .bool true) ?_ hHeld ?_
         ·intro w' hSw
          go_simp
          try first | done | omega | exact hv0 | (simp; omega)
         try simp only [Act.put, zA, zB, zC, zD, zE, zF]
         refine tkV 32 hHeld ?_
         try simp only [Act.put, zA, zB, zC, zD, zE, zF]
         refine wpAnyH_done (by kernel_rfl) ?_ _
         clear hHeld HS7
         go_wp2_with fail
         go_ret
         exact GivesV.mk' (by rw [HE.out]; rfl) (HB0.out.trans (HB7.out.mono HB0.out.size))
        ·have HT : Hid (rightMs (-1) hs = rightMs v (hs.drop (i + 1)) ∧ -1 ≤ v ∧ (i + 1 = 0 → v = -1) ∧ ∀ j d, i + 1 = j + 1 → hs[j]? = some d → d.v = v) := Lib.hid ⟨(by rw [HR.out, HLX.out, hrt, decide_eq_true hpv, decide_eq_true (show lx ≠ 0 from hx0)]; simp), (by have := HPV.out; omega), (by omega), prev_next HD.out⟩
         have hz : ((lx : Int) == 0) = false := by simpa using hx0
         rw [hrt] at HCR
         clear hrt hx0
         clear HR HPV
         go_wp2_with (first | (refine wpList_val (.agg #[.int .i64 v, .bool s, .slice a1 lx c1, .slice a2 ld c2]) (run_load_op 51 (.tmp 19) (by with_reducible rfl) g (off + i * 4) (by rfl) _ _ hr4 Tryz.underlying51 rfl (by rw [size_mono]; rfl)) (by rfl) ?_) | (with_reducible refine wpList_alloc_agg rfl 51 rfl zMono zero_mono ?_) | (refine wpList_store_new rfl 51 (.tmp 4) (.tmp 20) (by with_reducible rfl) wr zMono #[.int .i64 v, .bool s, .slice a1 lx c1, .slice a2 ld c2] (by rfl) (by rfl) (by rfl) (by rw [size_mono]; rfl) (by rfl) (one_mono ⟨v, s, a1, lx, c1, a2, ld, c2⟩) ?_))
         rw [← HW6.out]
         refine wp_region_held_drew (S := (fun W => W.cell? ⟨w.heap.size, 3, none⟩ = some (.slice (some ⟨g, off, none⟩) n cp) ∧ W.cell? ⟨wr.heap.size, 0, none⟩ = some (.int .i64 v) ∧ W.cell? ⟨wr.heap.size, 1, none⟩ = some (.bool s) ∧ W.cell? ⟨wr.heap.size, 2, none⟩ = some (.slice a1 lx c1) ∧ W.cell? ⟨wr.heap.size, 3, none⟩ = some (.slice a2 ld c2) ∧ W.cell? ⟨g, off + j * 4, none⟩ = some (.int .i64 v0))) (by kernel_rfl) ?_ (fun hHeld => ?_)
         ·exact HK.out _ (below_drew W6)
         refine tkV 0 hHeld ?_
         try simp only [Act.put, zA, zB, zC, zD, zE, zF]
         refine tkV 1 hHeld ?_
         try simp only [Act.put, zA, zB, zC, zD, zE, zF]
         refine tkL 2 (v := .bool false) ?_ hHeld ?_
         ·intro w' hSw
          go_simp
          try first | done | omega | exact hv0 | (simp; omega)
         try simp only [Act.put, zA, zB, zC, zD, zE, zF]
         refine tkV 3 hHeld ?_
         try simp only [Act.put, zA, zB, zC, zD, zE, zF]
         refine tkV 4 hHeld ?_
         try simp only [Act.put, zA, zB, zC, zD, zE, zF]
         refine tkL 5 (v := .bool true) ?_ hHeld ?_
         ·intro w' hSw
          go_simp
          try first | done | omega | exact hv0 | (simp; omega)
         try simp only [Act.put, zA, zB, zC, zD, zE, zF]
         refine tkV 6 hHeld ?_
         try simp only [Act.put, zA, zB, zC, zD, zE, zF]
         refine tkV 7 hHeld ?_
         try simp only [Act.put, zA, zB, zC, zD, zE, zF]
         refine tkV 8 hHeld ?_
         try simp only [Act.put, zA, zB, zC, zD, zE, zF]
         refine tkV 9 hHeld ?_
         try simp only [Act.put, zA, zB, zC, zD, zE, zF]
         refine tkV 10 hHeld ?_
         try simp only [Act.put, zA, zB, zC, zD, zE, zF]
         refine tkV 11 hHeld ?_
         try simp only [Act.put, zA, zB, zC, zD, zE, zF]
         refine tkV 12 hHeld ?_
         try simp only [Act.put, zA, zB, zC, zD, zE, zF]
         refine tkV 13 hHeld ?_
         try simp only [Act.put, zA, zB, zC, zD, zE, zF]
         refine tkV 14 hHeld ?_
         try simp only [Act.put, zA, zB, zC, zD, zE, zF]
         refine tkV 15 hHeld ?_
         try simp only [Act.put, zA, zB, zC, zD, zE, zF]
         refine tkL 16 (v := .bool false) ?_ hHeld ?_
         ·intro w' hSw
          go_simp
          try first | done | omega | exact hv0 | (simp; omega)
         try simp only [Act.put, zA, zB, zC, zD, zE, zF]
         refine tkV 17 hHeld ?_
         try simp only [Act.put, zA, zB, zC, zD, zE, zF]
         refine tkV 18 hHeld ?_
         try simp only [Act.put, zA, zB, zC, zD, zE, zF]
         refine tkV 19 hHeld ?_
         try simp only [Act.put, zA, zB, zC, zD, zE, zF]
         refine tkV 20 hHeld ?_
         try simp only [Act.put, zA, zB, zC, zD, zE, zF]
         refine tkV 21 hHeld ?_
         try simp only [Act.put, zA, zB, zC, zD, zE, zF]
         refine rdy [22] ?_
         refine AllReadyH.cons (by rfl) (fun K hK => ?_) AllReadyH.nil
         go_simp
         refine HCR.out.mono ?_
         rintro e w7 ⟨rfl, hb7⟩
         have HB7 := Lib.hid (HB6.out.trans (hb7.out.mono HB6.out.size))
         have HS7 := Lib.hid (HK.out _ hb7.out)
         clear hb7
         refine hK.out _ _ ?_ (fun hHeld => ?_)
         ·exact HS7.out
         clear hK K
         try simp only [Act.put, zA, zB, zC, zD, zE, zF]
         refine tkV 23 hHeld ?_
         try simp only [Act.put, zA, zB, zC, zD, zE, zF]
         refine tkV 24 hHeld ?_
         try simp only [Act.put, zA, zB, zC, zD, zE, zF]
         refine tkV 25 hHeld ?_
         try simp only [Act.put, zA, zB, zC, zD, zE, zF]
         refine tkV 26 hHeld ?_
         try simp only [Act.put, zA, zB, zC, zD, zE, zF]
         refine tkV 27 hHeld ?_
         try simp only [Act.put, zA, zB, zC, zD, zE, zF]
         refine tkV 28 hHeld ?_
         try simp only [Act.put, zA, zB, zC, zD, zE, zF]
         refine tkV 29 hHeld ?_
         try simp only [Act.put, zA, zB, zC, zD, zE, zF]
         refine tkV 30 hHeld ?_
         try simp only [Act.put, zA, zB, zC, zD, zE, zF]
         refine tkL 31 (v := .bool false) ?_ hHeld ?_
         ·intro w' hSw
          go_simp
          try first | done | omega | exact hv0 | (simp; omega)
         try simp only [Act.put, zA, zB, zC, zD, zE, zF]
         refine tkV 32 hHeld ?_
         try simp only [Act.put, zA, zB, zC, zD, zE, zF]
         refine wpAnyH_done (by kernel_rfl) ?_ _
         clear hHeld HS7
         go_wp2_with fail
         go_roundw
         case rel => exact ⟨i + 1, v, by omega, by go_num, HB7, HT⟩
         case measure => first | exact measure_next hiw hlt | exact measure_next rfl hlt
     ·have hi0 : i ≠ 0 := fun h => by have := HPV.out.2 h; omega
      obtain ⟨j, hj⟩ : ∃ j, i = j + 1 := ⟨i - 1, by omega⟩
      obtain ⟨d0, hd0, hv0', hcell⟩ := HPR.out j hj
      obtain ⟨v0, hv00⟩ : ∃ v0, v0 = p := ⟨_, rfl⟩
      rw [← hv00] at hcell
      have HE : Hid (rightP ps px pd hs = false) := Lib.hid (by unfold rightP; rw [HR.out, decide_eq_false hpv]; simp)
      have hi1 : (0 : Int) < (i : Int) := by omega
      have hjw : wrap64 ((i : Int) - 1) = (j : Int) := by rw [IntWalk.wrap64_in _ (by omega)]; omega
      have hjw2 : IntKind.i64.wrap ((i : Int) - 1) = (j : Int) := (IntWalk.i64_left _).trans hjw
      have hj0 : (0 : Int) ≤ (j : Int) := by omega
      have hjn : (j : Int) < (n : Int) := by omega
      have HK : Hid (∀ W, Below W6.heap.size W6 W → (fun W => W.cell? ⟨w.heap.size, 3, none⟩ = some (.slice (some ⟨g, off, none⟩) n cp) ∧ W.cell? ⟨wr.heap.size, 0, none⟩ = some (.int .i64 v) ∧ W.cell? ⟨wr.heap.size, 1, none⟩ = some (.bool s) ∧ W.cell? ⟨wr.heap.size, 2, none⟩ = some (.slice a1 lx c1) ∧ W.cell? ⟨wr.heap.size, 3, none⟩ = some (.slice a2 ld c2) ∧ W.cell? ⟨g, off + j * 4, none⟩ = some (.int .i64 v0)) W) := Lib.hid fun W hW => by
       obtain ⟨_, _, _, c3', _⟩ := cellsL4 (stayL (stayL HBX.out HB6.out) hW)
       obtain ⟨m0, m1, m2, m3, _⟩ := cellsL4 (stayL HKM.out hW)
       exact ⟨c3', m0, m1, m2, m3, hcell W (HAL.out.trans (hW.mono HAL.out.size))⟩
      have hjj := hj
      clear HPR hcell hd0 hv0'
      have hle : v ≤ v0 := by omega
      clear hv00 hj hjj hi0 hpv
      clear HR HPV
      go_wp2_with (first | (refine wpList_val (.agg #[.int .i64 v, .bool s, .slice a1 lx c1, .slice a2 ld c2]) (run_load_op 51 (.tmp 19) (by with_reducible rfl) g (off + i * 4) (by rfl) _ _ hr4 Tryz.underlying51 rfl (by rw [size_mono]; rfl)) (by rfl) ?_) | (with_reducible refine wpList_alloc_agg rfl 51 rfl zMono zero_mono ?_) | (refine wpList_store_new rfl 51 (.tmp 4) (.tmp 20) (by with_reducible rfl) wr zMono #[.int .i64 v, .bool s, .slice a1 lx c1, .slice a2 ld c2] (by rfl) (by rfl) (by rfl) (by rw [size_mono]; rfl) (by rfl) (one_mono ⟨v, s, a1, lx, c1, a2, ld, c2⟩) ?_))
      rw [← HW6.out]
      refine wp_region_held_drew (S := (fun W => W.cell? ⟨w.heap.size, 3, none⟩ = some (.slice (some ⟨g, off, none⟩) n cp) ∧ W.cell? ⟨wr.heap.size, 0, none⟩ = some (.int .i64 v) ∧ W.cell? ⟨wr.heap.size, 1, none⟩ = some (.bool s) ∧ W.cell? ⟨wr.heap.size, 2, none⟩ = some (.slice a1 lx c1) ∧ W.cell? ⟨wr.heap.size, 3, none⟩ = some (.slice a2 ld c2) ∧ W.cell? ⟨g, off + j * 4, none⟩ = some (.int .i64 v0))) (by kernel_rfl) ?_ (fun hHeld => ?_)
      ·exact HK.out _ (below_drew W6)
      refine tkV 0 hHeld ?_
      try simp only [Act.put, zA, zB, zC, zD, zE, zF]
      refine tkV 1 hHeld ?_
      try simp only [Act.put, zA, zB, zC, zD, zE, zF]
      refine tkL 2 (v := .bool false) ?_ hHeld ?_
      ·intro w' hSw
       go_simp
       try first | done | omega | exact hv0 | (simp; omega)
      try simp only [Act.put, zA, zB, zC, zD, zE, zF]
      refine tkV 3 hHeld ?_
      try simp only [Act.put, zA, zB, zC, zD, zE, zF]
      refine tkV 4 hHeld ?_
      try simp only [Act.put, zA, zB, zC, zD, zE, zF]
      refine tkL 5 (v := .bool true) ?_ hHeld ?_
      ·intro w' hSw
       go_simp
       try first | done | omega | exact hv0 | (simp; omega)
      try simp only [Act.put, zA, zB, zC, zD, zE, zF]
      refine tkV 6 hHeld ?_
      try simp only [Act.put, zA, zB, zC, zD, zE, zF]
      refine tkV 7 hHeld ?_
      try simp only [Act.put, zA, zB, zC, zD, zE, zF]
      refine tkV 8 hHeld ?_
      try simp only [Act.put, zA, zB, zC, zD, zE, zF]
      refine tkV 9 hHeld ?_
      try simp only [Act.put, zA, zB, zC, zD, zE, zF]
      refine tkV 10 hHeld ?_
      try simp only [Act.put, zA, zB, zC, zD, zE, zF]
      refine tkV 11 hHeld ?_
      try simp only [Act.put, zA, zB, zC, zD, zE, zF]
      refine tkV 12 hHeld ?_
      try simp only [Act.put, zA, zB, zC, zD, zE, zF]
      refine tkV 13 hHeld ?_
      try simp only [Act.put, zA, zB, zC, zD, zE, zF]
      refine tkV 14 hHeld ?_
      try simp only [Act.put, zA, zB, zC, zD, zE, zF]
      refine tkV 15 hHeld ?_
      try simp only [Act.put, zA, zB, zC, zD, zE, zF]
      refine tkL 16 (v := .bool true) ?_ hHeld ?_
      ·intro w' hSw
       go_simp
       try first | done | omega | exact hv0 | (simp; omega)
      try simp only [Act.put, zA, zB, zC, zD, zE, zF]
      refine tkV 17 hHeld ?_
      try simp only [Act.put, zA, zB, zC, zD, zE, zF]
      refine tkV 18 hHeld ?_
      try simp only [Act.put, zA, zB, zC, zD, zE, zF]
      refine tkV 19 hHeld ?_
      try simp only [Act.put, zA, zB, zC, zD, zE, zF]
      refine tkR 20 hHeld ?_
      try simp only [Act.put, zA, zB, zC, zD, zE, zF]
      refine tkR 21 hHeld ?_
      try simp only [Act.put, zA, zB, zC, zD, zE, zF]
      refine tkR 22 hHeld ?_
      try simp only [Act.put, zA, zB, zC, zD, zE, zF]
      refine tkR 23 hHeld ?_
      try simp only [Act.put, zA, zB, zC, zD, zE, zF]
      refine tkV 24 hHeld ?_
      try simp only [Act.put, zA, zB, zC, zD, zE, zF]
      refine tkV 25 hHeld ?_
      try simp only [Act.put, zA, zB, zC, zD, zE, zF]
      refine tkR 26 hHeld ?_
      try simp only [Act.put, zA, zB, zC, zD, zE, zF]
      refine tkR 27 hHeld ?_
      try simp only [Act.put, zA, zB, zC, zD, zE, zF]
      refine tkR 28 hHeld ?_
      try simp only [Act.put, zA, zB, zC, zD, zE, zF]
      refine tkR 29 hHeld ?_
      try simp only [Act.put, zA, zB, zC, zD, zE, zF]
      refine tkR 30 hHeld ?_
      try simp only [Act.put, zA, zB, zC, zD, zE, zF]
      refine tkR 31 hHeld ?_
      try simp only [Act.put, zA, zB, zC, zD, zE, zF]
      refine tkV 32 hHeld ?_
      try simp only [Act.put, zA, zB, zC, zD, zE, zF]
      refine wpAnyH_done (by kernel_rfl) ?_ _
      clear hHeld
      go_wp2_with fail
      go_ret
      exact GivesV.mk' (by rw [HE.out]; rfl) (HB0.out.trans (HB6.out.drew.mono HB0.out.size))
   ·obtain rfl : i = n := by omega
    have HE : Hid (rightP ps px pd hs = true) := Lib.hid (by
     unfold rightP
     rw [HC0.out, HT.out.1, List.drop_of_length_le (by have := HMM.out.2; omega)]; rfl)
    go_wp2_with fail
    go_ret
    exact GivesV.mk' (by rw [HE.out]; rfl) HBW.out
end Go.Proofs.YtpjeecahaeaajaaGreatDoor

namespace Go.Proofs.YtpjeecahaeaajaaGreatDoor
open Go.RowKit Rep Ln
theorem V_of_right {s : Bool} {xs ds : List Nat} (h : rightB s xs ds = true) : (V xs = 0) ↔ xs.length = 0 := by
 obtain ⟨-, h2, -⟩ := of_decide_eq_true h
 rw [h2, V_L]
 generalize mgQ (qOf s xs ds) = m
 constructor
 ·rintro rfl; rfl
 ·intro e
  have h0 := V_L m
  rw [List.length_eq_zero_iff.1 e] at h0
  exact h0.symm
set_option maxRecDepth 100000 in
set_option maxHeartbeats 16000000 in
theorem PRight_any {w : World} {ps : Bool} {pa pb : Option Addr} {pc pe : Nat} {px pd : List Nat} {a : Option Addr} {cp : Nat} {hs : List HM} (hT : Tab w)
    (hp : HandR w pa pc px pb pe pd) (lp : px.length ≤ 2000000) (le : pd.length ≤ 2000000) (hm : HMs w a hs) (hn : hs.length ≤ 1000) :
    Calls Tryz.prog 8 #[.agg #[.bool ps, .slice pa px.length pc, .slice pb pd.length pe, .slice a hs.length cp]] w (GivesV (.bool (rightP ps px pd hs)) w) := by
 obtain ⟨pl, hpl⟩ : ∃ n, px.length = n := ⟨_, rfl⟩
 obtain ⟨pk, hpk⟩ : ∃ n, pd.length = n := ⟨_, rfl⟩
 obtain ⟨n, hnn⟩ : ∃ n, hs.length = n := ⟨_, rfl⟩
 obtain ⟨W0, hW0⟩ : ∃ W0, W0 = w.alloc (.cells #[.bool ps, .slice pa pl pc, .slice pb pk pe, .slice a n cp] 30) := ⟨_, rfl⟩
 have hB0 : Below w.heap.size w W0 := by rw [hW0]; exact (Below.refl _ _).alloc (Nat.le_refl _) _
 have b0 : W0.heap[w.heap.size]? = some (.cells #[.bool ps, .slice pa pl pc, .slice pb pk pe, .slice a n cp] 30 (0, 0)) := by rw [hW0]; exact heap_alloc_new w _
 have HFC := Lib.hid (RightP_in (s := ps) ((hp.kept hB0).num.inL lp) ((hp.kept hB0).den.inL le) (hT.kept hB0) lp le)
 rw [hpl, hpk] at HFC
 have HB0 := Lib.hid hB0
 have HMM := Lib.hid (And.intro (hm.kept hB0) (And.intro hnn (hT.kept hB0)))
 have HW0 := Lib.hid hW0
 rw [hnn] at hn
 rw [hpl, hpk, hnn]
 have HBX := Lib.hid b0
 obtain ⟨q0, q1, q2, q3, _⟩ := cellsL4 b0
 rw [hW0] at q0 q1 q2 q3
 clear hp lp le hm hB0 b0 hnn hW0 hpl hpk hT
 go_enter Tryz.func8, Tryz.ntmps8
 go_wp2_with fail
 rw [← HW0.out]
 refine HFC.out.mono ?_
 rintro e w5 ⟨rfl, hb5⟩
 have HB5 := Lib.hid (HB0.out.trans (hb5.mono HB0.out.size))
 have HB05 := Lib.hid hb5
 obtain ⟨_, _, _, c3, _⟩ := cellsL4 (stayL HBX.out hb5)
 clear q0 q1 q2 q3 hb5 HFC
 cases hov : rightB ps px pd
 ·have HE : Hid (rightP ps px pd hs = false) := Lib.hid (by unfold rightP; rw [hov]; rfl)
  clear hov
  go_wp2_with fail
  go_ret
  exact GivesV.mk' (by rw [HE.out]; rfl) HB5.out
 ·have HC0 := Lib.hid hov
  clear hov
  go_wp2_with fail
  go_loopw [13, 3] (fun (iv av : Value) (wr : World) => ∃ (i : Nat) (p : Int), i ≤ n ∧ iv = .int .i64 (i : Int) ∧ av = .int .i64 p ∧ Hid (Below W0.heap.size W0 wr) ∧ Hid (rightMs (-1) hs = rightMs p (hs.drop i))) (fun iv _ _ => n - (intOf iv).toNat)
  case atStart => exact ⟨0, -1, Nat.zero_le _, rfl, rfl, HB05, Lib.hid rfl⟩
  case round =>
   obtain ⟨i, p, hin, rfl, rfl, HB, HT⟩ := hrel
   clear c3
   have HBW := Lib.hid (HB0.out.trans (HB.out.mono HB0.out.size))
   by_cases hlt : i < n
   ·obtain ⟨d, g, off, hd, rfl, hh, hlx, hld, hr⟩ := (HMM.out.1.kept HB.out).get (k := i) (by have := HMM.out.2.1; omega)
    have hR := HT.out
    rw [rightMs_at hd] at hR
    obtain ⟨v, s, a1, c1, xs, a2, c2, ds⟩ := d
    dsimp only [HM.right, HM.cells] at hh hlx hld hr hR
    obtain ⟨lx, hlxe⟩ : ∃ l, xs.length = l := ⟨_, rfl⟩
    obtain ⟨ld, hlde⟩ : ∃ l, ds.length = l := ⟨_, rfl⟩
    have HLX := Lib.hid hlxe
    have hal := (Below.refl wr.heap.size wr).alloc (Nat.le_refl _) (.cells #[.int .i64 v, .bool s, .slice a1 lx c1, .slice a2 ld c2] 51)
    obtain ⟨W6, hW6⟩ : ∃ W6, W6 = wr.alloc (.cells #[.int .i64 v, .bool s, .slice a1 lx c1, .slice a2 ld c2] 51) := ⟨_, rfl⟩
    rw [← hW6] at hal
    have hh6 := hh.kept hal
    have HCR := Lib.hid (RightP_in (s := s) (hh6.num.inL hlx) (hh6.den.inL hld) ((HMM.out.2.2.kept HB.out).kept hal) hlx hld)
    have HSG : Hid (∀ W, Below W6.heap.size W6 W → Calls Tryz.prog 33 #[.agg #[.bool s, .slice a1 xs.length c1, .slice a2 ds.length c2]] W (fun e w' => ∃ x : Int, e = .returned (.int .i64 x) ∧ ((x == 0) = decide (V xs = 0)) ∧ Hid (Below W.heap.size W w'))) := Lib.hid fun W hW => SignE (NumE.inn ((hh6.num.kept hW).inL hlx))
    have hr4 : wr.rangeAt g (off + i * 4) [.int .i64 v, .bool s, .slice a1 xs.length c1, .slice a2 ds.length c2] := hr
    rw [hlxe, hlde] at HCR HSG hr4
    have hkm : W6.heap[wr.heap.size]? = some (.cells #[.int .i64 v, .bool s, .slice a1 lx c1, .slice a2 ld c2] 51 (0, 0)) := by rw [hW6]; exact heap_alloc_new wr _
    have HKM := Lib.hid hkm
    obtain ⟨m0, m1, m2, m3, _⟩ := cellsL4 hkm
    have HB6 := Lib.hid (HB.out.trans (hal.mono HB.out.size))
    have HW6 := Lib.hid hW6
    have HR := Lib.hid hR
    have hii : (i : Int) < (n : Int) := by omega
    have hiw : wrap64 ((i : Int) + 1) = (i : Int) + 1 := IntWalk.wrap64_in _ (by omega)
    have HPI := Lib.hid hin
    rw [hW6] at m0 m1 m2 m3
    clear hd hh hh6 hlx hld hr hR hlxe hlde hal hkm HT
    by_cases hpv : p < v
    ·have hle : decide (v ≤ p) = false := decide_eq_false (by omega)
     have HPV := Lib.hid hpv
     clear hpv
     cases hrt : rightB s xs ds
     ·have HE : Hid (rightP ps px pd hs = false) := Lib.hid (by unfold rightP; rw [HR.out, hrt]; simp)
      rw [hrt] at HCR
      clear hrt hW6
      go_wp2_with (first | (refine wpList_val (.agg #[.int .i64 v, .bool s, .slice a1 lx c1, .slice a2 ld c2]) (run_load_op 51 (.tmp 15) (by with_reducible rfl) g (off + i * 4) (by rfl) _ _ hr4 Tryz.underlying51 rfl (by rw [size_mono]; rfl)) (by rfl) ?_) | (with_reducible refine wpList_alloc_agg rfl 51 rfl zMono zero_mono ?_) | (refine wpList_store_new rfl 51 (.tmp 5) (.tmp 16) (by with_reducible rfl) wr zMono #[.int .i64 v, .bool s, .slice a1 lx c1, .slice a2 ld c2] (by rfl) (by rfl) (by rfl) (by rw [size_mono]; rfl) (by rfl) (one_mono ⟨v, s, a1, lx, c1, a2, ld, c2⟩) ?_))
      rw [← HW6.out]
      refine HCR.out.mono ?_
      rintro e w7 ⟨rfl, hb7⟩
      have HB7 := Lib.hid (HB6.out.trans (hb7.mono HB6.out.size))
      clear hb7
      go_wp2_with fail
      go_ret
      exact GivesV.mk' (by rw [HE.out]; rfl) (HB0.out.trans (HB7.out.mono HB0.out.size))
     ·have HX0 := Lib.hid (V_of_right hrt)
      have HRT := Lib.hid hrt
      rw [hrt] at HCR
      clear hrt hW6
      go_wp2_with (first | (refine wpList_val (.agg #[.int .i64 v, .bool s, .slice a1 lx c1, .slice a2 ld c2]) (run_load_op 51 (.tmp 15) (by with_reducible rfl) g (off + i * 4) (by rfl) _ _ hr4 Tryz.underlying51 rfl (by rw [size_mono]; rfl)) (by rfl) ?_) | (with_reducible refine wpList_alloc_agg rfl 51 rfl zMono zero_mono ?_) | (refine wpList_store_new rfl 51 (.tmp 5) (.tmp 16) (by with_reducible rfl) wr zMono #[.int .i64 v, .bool s, .slice a1 lx c1, .slice a2 ld c2] (by rfl) (by rfl) (by rfl) (by rw [size_mono]; rfl) (by rfl) (one_mono ⟨v, s, a1, lx, c1, a2, ld, c2⟩) ?_))
      rw [← HW6.out]
      refine HCR.out.mono ?_
      rintro e w7 ⟨rfl, hb7⟩
      obtain ⟨m0', m1', m2', m3', _⟩ := cellsL4 (stayL HKM.out hb7)
      have HS := Lib.hid (HSG.out w7 hb7)
      have HB7 := Lib.hid (HB6.out.trans (hb7.mono HB6.out.size))
      have HB67 := Lib.hid hb7
      clear hb7 HSG HCR m0 m1 m2 m3
      go_wp2_with fail
      refine HS.out.mono ?_
      rintro e w8 ⟨x, rfl, hx, hb8⟩
      have HB8 := Lib.hid (HB7.out.trans (hb8.out.mono HB7.out.size))
      obtain ⟨m0, _, _, _, _⟩ := cellsL4 (stayL HKM.out (HB67.out.trans (hb8.out.mono HB67.out.size)))
      clear hb8 HS HB7 HB67 m0' m1' m2' m3'
      by_cases hx0 : lx = 0
      ·have HE : Hid (rightP ps px pd hs = false) := Lib.hid (by unfold rightP; rw [HR.out, HLX.out, decide_eq_false (fun h : lx ≠ 0 => h hx0)]; simp)
       rw [decide_eq_true (HX0.out.2 (by rw [HLX.out]; exact hx0))] at hx
       clear hx0
       go_wp2_with fail
       go_ret
       exact GivesV.mk' (by rw [HE.out]; rfl) (HB0.out.trans (HB8.out.mono HB0.out.size))
      ·have HT2 : Hid (rightMs (-1) hs = rightMs v (hs.drop (i + 1))) := Lib.hid (by rw [HR.out, HLX.out, HRT.out, decide_eq_true HPV.out, decide_eq_true (show lx ≠ 0 from hx0)]; simp)
       rw [decide_eq_false (fun h => hx0 (by rw [← HLX.out]; exact HX0.out.1 h))] at hx
       clear hx0
       go_wp2_with fail
       go_roundw
       case rel => exact ⟨i + 1, v, by omega, by go_num, rfl, HB8, HT2⟩
       case measure => first | exact measure_next hiw hlt | exact measure_next rfl hlt
    ·have hle : decide (v ≤ p) = true := decide_eq_true (by omega)
     have HE : Hid (rightP ps px pd hs = false) := Lib.hid (by unfold rightP; rw [HR.out, decide_eq_false hpv]; simp)
     clear hpv hW6
     go_wp2_with (first | (refine wpList_val (.agg #[.int .i64 v, .bool s, .slice a1 lx c1, .slice a2 ld c2]) (run_load_op 51 (.tmp 15) (by with_reducible rfl) g (off + i * 4) (by rfl) _ _ hr4 Tryz.underlying51 rfl (by rw [size_mono]; rfl)) (by rfl) ?_) | (with_reducible refine wpList_alloc_agg rfl 51 rfl zMono zero_mono ?_) | (refine wpList_store_new rfl 51 (.tmp 5) (.tmp 16) (by with_reducible rfl) wr zMono #[.int .i64 v, .bool s, .slice a1 lx c1, .slice a2 ld c2] (by rfl) (by rfl) (by rfl) (by rw [size_mono]; rfl) (by rfl) (one_mono ⟨v, s, a1, lx, c1, a2, ld, c2⟩) ?_))
     rw [← HW6.out]
     go_ret
     exact GivesV.mk' (by rw [HE.out]; rfl) (HB0.out.trans (HB6.out.mono HB0.out.size))
   ·obtain rfl : i = n := by omega
    have HE : Hid (rightP ps px pd hs = true) := Lib.hid (by
     unfold rightP
     rw [HC0.out, HT.out, List.drop_of_length_le (by have := HMM.out.2.1; omega)]; rfl)
    go_wp2_with fail
    go_ret
    exact GivesV.mk' (by rw [HE.out]; rfl) HBW.out
end Go.Proofs.YtpjeecahaeaajaaGreatDoor

namespace Go.Proofs.YtpjeecahaeaajaaGreatDoor
open Go.RowKit Rep Ln
structure HPo where
 s : Bool
 a1 : Option Addr
 c1 : Nat
 xs : List Nat
 a2 : Option Addr
 c2 : Nat
 ds : List Nat
 a : Option Addr
 cp : Nat
 hs : List HM
def HPo.cells (p : HPo) : List Value := [.bool p.s, .slice p.a1 p.xs.length p.c1, .slice p.a2 p.ds.length p.c2, .slice p.a p.hs.length p.cp]
def HPo.raw (p : HPo) : RawR := (p.s, (p.a1, p.xs.length, p.c1), (p.a2, p.ds.length, p.c2))
def HM.raw (d : HM) : RawR := (d.s, (d.a1, d.xs.length, d.c1), (d.a2, d.ds.length, d.c2))
structure HandPo (w : World) (p : HPo) : Prop where
 num : HandR w p.a1 p.c1 p.xs p.a2 p.c2 p.ds
 lx : p.xs.length ≤ 2000000
 ld : p.ds.length ≤ 2000000
 ms : HMs w p.a p.hs
theorem HandPo.kept {w w' : World} {p : HPo} (h : HandPo w p) (hb : Below w.heap.size w w') : HandPo w' p := ⟨h.num.kept hb, h.lx, h.ld, h.ms.kept hb⟩
def gM (d : HM) : Bool := greatB [d.raw]
def oddPo (p : HPo) : Bool := decide (12 < p.hs.length) || (greatB [p.raw] || (!rightP p.s p.xs p.ds p.hs || p.hs.any gM))
def Pols (w : World) (g : Nat) (ts : List HPo) : Prop := ∀ k p, ts[k]? = some p → w.rangeAt g (k * 4) p.cells
theorem Rats.one1 {w : World} {g : Nat} {s : Bool} {a1 a2 : Option Addr} {l1 c1 l2 c2 : Nat} {t : TypeId} (h : w.heap[g]? = some (.cells #[.bool s, .slice a1 l1 c1, .slice a2 l2 c2] t (0, 0))) : Rats w g [(s, (a1, l1, c1), (a2, l2, c2))] := fun k t hk => by
 obtain ⟨h0, h1, h2, _⟩ := cells3 h
 rcases k with _ | k
 ·simp at hk; subst hk; exact ⟨h0, h1, h2⟩
 ·simp at hk
theorem great_one {W : World} {s : Bool} {a1 a2 : Option Addr} {l1 c1 l2 c2 : Nat} :
    Calls Tryz.prog 11 #[.slice (some ⟨W.heap.size, 0, none⟩) 1 1] (W.alloc (.cells #[.bool s, .slice a1 l1 c1, .slice a2 l2 c2] 27)) (fun e W' => e = .returned (.bool (greatB [(s, (a1, l1, c1), (a2, l2, c2))])) ∧ Hid (Below W.heap.size W W')) :=
 (Great_any W.heap.size 1 [(s, (a1, l1, c1), (a2, l2, c2))] _ (Rats.one1 (heap_alloc_new W _)) (by simp) (by simp)).mono fun e W' hg => ⟨hg.1, Lib.hid (((Below.refl W.heap.size W).alloc (Nat.le_refl _) _).trans (hg.2.mono (by simp)))⟩
theorem any_take {hs : List HM} {i : Nat} {d : HM} (h : hs[i]? = some d) (ht : (hs.take i).any gM = false) (hp : gM d = false) : (hs.take (i + 1)).any gM = false := by
 rw [List.take_add_one, h, List.any_append, ht]
 simp [hp]
set_option maxRecDepth 100000 in
set_option maxHeartbeats 16000000 in
theorem Odd12_any (g c : Nat) (ts : List HPo) (w : World) (hr : Pols w g ts) (hh : ∀ p ∈ ts, HandPo w p) (hg : g < w.heap.size) (hl : ts.length ≤ 1000) :
    Calls Tryz.prog 10 #[.slice (some ⟨g, 0, none⟩) ts.length c] w (GivesV (.bool (ts.any oddPo)) w) := by
 have HP := Lib.hid (And.intro hr (And.intro hh hg))
 obtain ⟨N, hN⟩ : ∃ n, ts.length = n := ⟨_, rfl⟩
 have HN := Lib.hid hN
 rw [hN] at hl ⊢
 clear hr hh hg hN
 go_enter Tryz.func10, Tryz.ntmps10
 go_wp2_with fail
 go_loopw [9] (fun (iv : Value) (wr : World) => ∃ k : Nat, k ≤ N ∧ iv = .int .i64 (k : Int) ∧ Hid ((ts.take k).any oddPo = false) ∧ Hid (Below w.heap.size w wr)) (fun iv _ => N - (intOf iv).toNat)
 case atStart => exact ⟨0, Nat.zero_le _, rfl, Lib.hid rfl, Lib.hid (Below.refl _ _)⟩
 case round =>
  obtain ⟨k, hk, rfl, HE0, HB⟩ := hrel
  by_cases hlt : k < N
  ·have hk2 : k < ts.length := by rw [HN.out]; exact hlt
   have HT : Hid (ts.take (k + 1) = ts.take k ++ [ts[k]]) := Lib.hid (List.take_succ_eq_append_getElem hk2)
   have HM2 : Hid (ts[k] ∈ ts) := Lib.hid (List.getElem_mem hk2)
   have hh := (HP.out.2.1 ts[k] (List.getElem_mem hk2)).kept HB.out
   have hr := rangeAt_kept (HP.out.1 k ts[k] (List.getElem?_eq_getElem hk2)) HB.out HP.out.2.2
   generalize ts[k] = p at hh hr HT HM2
   obtain ⟨s, a1, c1, xs, a2, c2, ds, a, cp, hs⟩ := p
   obtain ⟨hnum, hlx, hld, hms⟩ := hh
   dsimp only [HPo.cells] at hr hnum hlx hld hms
   have hgr : g < wr.heap.size := rangeAt_lt hr (by simp)
   have d0 : wr.cell? ⟨g, k * 4, none⟩ = some (.bool s) := hr 0 _ rfl
   have d1 : wr.cell? ⟨g, k * 4 + 1, none⟩ = some (.slice a1 xs.length c1) := hr 1 _ rfl
   have d2 : wr.cell? ⟨g, k * 4 + 2, none⟩ = some (.slice a2 ds.length c2) := hr 2 _ rfl
   have d3 : wr.cell? ⟨g, k * 4 + 3, none⟩ = some (.slice a hs.length cp) := hr 3 _ rfl
   have hal := (Below.refl wr.heap.size wr).alloc (Nat.le_refl _) (.cells #[.bool s, .slice a1 xs.length c1, .slice a2 ds.length c2, .slice a hs.length cp] 30)
   have HOD : Hid (oddPo ⟨s, a1, c1, xs, a2, c2, ds, a, cp, hs⟩ = (decide (12 < hs.length) || (greatB [(s, (a1, xs.length, c1), (a2, ds.length, c2))] || (!rightP s xs ds hs || hs.any gM)))) := Lib.hid rfl
   have HYES : Hid (oddPo ⟨s, a1, c1, xs, a2, c2, ds, a, cp, hs⟩ = true → ts.any oddPo = true) := Lib.hid fun h => List.any_eq_true.2 ⟨_, HM2.out, h⟩
   have HNO : Hid (oddPo ⟨s, a1, c1, xs, a2, c2, ds, a, cp, hs⟩ = false → (ts.take (k + 1)).any oddPo = false) := Lib.hid fun h => by
    rw [HT.out, List.any_append, HE0.out]
    simp [h]
   obtain ⟨W6, hW6⟩ : ∃ W6, W6 = wr.alloc (.cells #[.bool s, .slice a1 xs.length c1, .slice a2 ds.length c2, .slice a hs.length cp] 30) := ⟨_, rfl⟩
   rw [← hW6] at hal
   have HH : Hid (HandR W6 a1 c1 xs a2 c2 ds ∧ xs.length ≤ 2000000 ∧ ds.length ≤ 2000000 ∧ HMs W6 a hs) := Lib.hid ⟨hnum.kept hal, hlx, hld, hms.kept hal⟩
   have hbl : W6.heap[wr.heap.size]? = some (.cells #[.bool s, .slice a1 xs.length c1, .slice a2 ds.length c2, .slice a hs.length cp] 30 (0, 0)) := by rw [hW6]; exact heap_alloc_new wr _
   have hGR := great_one (W := W6) (s := s) (a1 := a1) (a2 := a2) (l1 := xs.length) (c1 := c1) (l2 := ds.length) (c2 := c2)
   have hs6 : W6.heap.size = wr.heap.size + 1 := by rw [hW6]; simp
   rw [hs6] at hGR
   have HGR : Hid (Calls Tryz.prog 11 #[.slice (some ⟨wr.heap.size + 1, 0, none⟩) 1 1] (W6.alloc (.cells #[.bool s, .slice a1 xs.length c1, .slice a2 ds.length c2] 27)) (fun e W' => e = .returned (.bool (greatB [(s, (a1, xs.length, c1), (a2, ds.length, c2))])) ∧ Hid (Below W6.heap.size W6 W'))) := Lib.hid (by rw [hs6]; exact hGR)
   have HB6 := Lib.hid (HB.out.trans (hal.mono HB.out.size))
   have HBL := Lib.hid hbl
   have HW6 := Lib.hid hW6
   have HRC : Hid (∀ W, Below W6.heap.size W6 W → hs.length ≤ 12 → Calls Tryz.prog 9 #[.agg #[.bool s, .slice a1 xs.length c1, .slice a2 ds.length c2, .slice a hs.length cp]] W (GivesV (.bool (rightP s xs ds hs)) W)) := Lib.hid fun W hW hl => RRight_any (HH.out.1.kept hW) HH.out.2.1 HH.out.2.2.1 (HH.out.2.2.2.kept hW) (by omega)
   rw [hW6] at HGR
   obtain ⟨lx, hlxe⟩ : ∃ l, xs.length = l := ⟨_, rfl⟩
   obtain ⟨ld, hlde⟩ : ∃ l, ds.length = l := ⟨_, rfl⟩
   obtain ⟨n, hnn⟩ : ∃ l, hs.length = l := ⟨_, rfl⟩
   have HL := Lib.hid hnn
   rw [hlxe] at d1
   rw [hlde] at d2
   rw [hnn] at d3
   simp only [hlxe, hlde, hnn] at HGR HOD HRC HBL HW6
   have hii : (k : Int) < (N : Int) := by omega
   have hiw : wrap64 ((k : Int) + 1) = (k : Int) + 1 := IntWalk.wrap64_in _ (by omega)
   clear hr hnum hlx hld hms hal hs6 hbl hGR hlxe hlde hnn hk2
   by_cases h12 : 12 < n
   ·have hgd : decide ((12 : Int) < (n : Int)) = true := decide_eq_true (by omega)
    have HV : Hid (ts.any oddPo = true) := Lib.hid (HYES.out (by rw [HOD.out, decide_eq_true h12]; rfl))
    clear h12 hW6 HGR HRC HOD
    go_wp2_with fail
    rw [← HW6.out]
    go_ret
    exact GivesV.mk' (by rw [HV.out]; rfl) HB6.out
   ·have hgd : decide ((12 : Int) < (n : Int)) = false := decide_eq_false (by omega)
    have H12 := Lib.hid h12
    clear h12 hW6
    cases hgr2 : greatB [(s, (a1, lx, c1), (a2, ld, c2))]
    case true =>
     have HV : Hid (ts.any oddPo = true) := Lib.hid (HYES.out (by rw [HOD.out, hgr2]; simp))
     rw [hgr2] at HGR
     clear hgr2 HRC HOD
     go_wp2_with fail
     refine HGR.out.mono ?_
     rintro e w7 ⟨rfl, h7⟩
     rw [← HW6.out] at h7
     have HB7 := Lib.hid (HB6.out.trans (h7.out.mono HB6.out.size))
     clear h7 HGR
     go_wp2_with fail
     go_ret
     exact GivesV.mk' (by rw [HV.out]; rfl) HB7.out
    case false =>
     have HG0 := Lib.hid hgr2
     rw [hgr2] at HGR
     clear hgr2
     cases hrp : rightP s xs ds hs
     case false =>
      have HV : Hid (ts.any oddPo = true) := Lib.hid (HYES.out (by rw [HOD.out, hrp]; simp))
      rw [hrp] at HRC
      clear hrp HOD
      go_wp2_with fail
      refine HGR.out.mono ?_
      rintro e w7 ⟨rfl, h7⟩
      rw [← HW6.out] at h7
      have HB7 := Lib.hid (HB6.out.trans (h7.out.mono HB6.out.size))
      obtain ⟨m0, m1, m2, m3, _⟩ := cellsL4 (stayL HBL.out h7.out)
      have HR7 := Lib.hid (HRC.out _ h7.out (by have := H12.out; omega))
      clear h7 HGR HRC d0 d1 d2 d3
      go_wp2_with fail
      refine HR7.out.mono ?_
      rintro e w8 ⟨rfl, h8⟩
      have HB8 := Lib.hid (HB7.out.trans (h8.mono HB7.out.size))
      clear h8 HR7 m0 m1 m2 m3
      go_wp2_with fail
      go_ret
      exact GivesV.mk' (by rw [HV.out]; rfl) HB8.out
     case true =>
      rw [hrp] at HRC
      have HRP := Lib.hid hrp
      clear hrp
      go_wp2_with fail
      refine HGR.out.mono ?_
      rintro e w7 ⟨rfl, h7⟩
      rw [← HW6.out] at h7
      have HB7 := Lib.hid (HB6.out.trans (h7.out.mono HB6.out.size))
      have HB67 := Lib.hid h7.out
      obtain ⟨m0, m1, m2, m3, _⟩ := cellsL4 (stayL HBL.out h7.out)
      have HR7 := Lib.hid (HRC.out _ h7.out (by have := H12.out; omega))
      clear h7 HGR HRC d0 d1 d2 d3
      go_wp2_with fail
      refine HR7.out.mono ?_
      rintro e w8 ⟨rfl, h8⟩
      have HB8 := Lib.hid (HB7.out.trans (h8.mono HB7.out.size))
      have HB68 := Lib.hid (HB67.out.trans (h8.mono HB67.out.size))
      obtain ⟨m0, m1, m2, m3, _⟩ := cellsL4 (stayL HBL.out HB68.out)
      have HMS := Lib.hid (HH.out.2.2.2.kept HB68.out)
      clear h8 HR7 HB67 HB7
      go_wp2_with fail
      go_loopw [31] (fun (iv : Value) (wr : World) => ∃ j : Nat, j ≤ n ∧ iv = .int .i64 (j : Int) ∧ Hid ((hs.take j).any gM = false) ∧ Hid (Below w8.heap.size w8 wr)) (fun iv _ => n - (intOf iv).toNat)
      case atStart => exact ⟨0, Nat.zero_le _, rfl, Lib.hid rfl, Lib.hid (Below.refl _ _)⟩
      case round =>
       obtain ⟨j, hj, rfl, HJ, HBJ⟩ := hrel
       clear m0 m1 m2 m3
       by_cases hjn : j < n
       ·obtain ⟨d, g2, off, hd, rfl, hh, hlx, hld, hr⟩ := (HMS.out.kept HBJ.out).get (k := j) (by rw [HL.out]; exact hjn)
        have HD := Lib.hid hd
        obtain ⟨v, t, b1, f1, ys, b2, f2, es⟩ := d
        dsimp only [HM.cells] at hr
        obtain ⟨ly, hlye⟩ : ∃ l, ys.length = l := ⟨_, rfl⟩
        obtain ⟨le, hlee⟩ : ∃ l, es.length = l := ⟨_, rfl⟩
        have HGM : Hid (gM ⟨v, t, b1, f1, ys, b2, f2, es⟩ = greatB [(t, (b1, ly, f1), (b2, le, f2))]) := Lib.hid (by rw [← hlye, ← hlee]; rfl)
        rw [hlye, hlee] at hr
        have hr4 : wr.rangeAt g2 (off + j * 4) [.int .i64 v, .bool t, .slice b1 ly f1, .slice b2 le f2] := hr
        have hal := (Below.refl wr.heap.size wr).alloc (Nat.le_refl _) (.cells #[.int .i64 v, .bool t, .slice b1 ly f1, .slice b2 le f2] 51)
        have hGR := great_one (W := wr.alloc (.cells #[.int .i64 v, .bool t, .slice b1 ly f1, .slice b2 le f2] 51)) (s := t) (a1 := b1) (a2 := b2) (l1 := ly) (c1 := f1) (l2 := le) (c2 := f2)
        rw [show (wr.alloc (.cells #[.int .i64 v, .bool t, .slice b1 ly f1, .slice b2 le f2] 51)).heap.size = wr.heap.size + 1 by simp] at hGR
        have HGR : Hid (Calls Tryz.prog 11 #[.slice (some ⟨wr.heap.size + 1, 0, none⟩) 1 1] ((wr.alloc (.cells #[.int .i64 v, .bool t, .slice b1 ly f1, .slice b2 le f2] 51)).alloc (.cells #[.bool t, .slice b1 ly f1, .slice b2 le f2] 27)) (fun e W' => e = .returned (.bool (greatB [(t, (b1, ly, f1), (b2, le, f2))])) ∧ Hid (Below wr.heap.size wr W'))) := Lib.hid (hGR.mono fun e W' h => ⟨h.1, Lib.hid (hal.trans (h.2.out.mono (by simp)))⟩)
        have hm := heap_alloc_new wr (.cells #[.int .i64 v, .bool t, .slice b1 ly f1, .slice b2 le f2] 51)
        obtain ⟨m0, m1, m2, m3, _⟩ := cellsL4 hm
        have hjj : (j : Int) < (n : Int) := by omega
        have hjw : wrap64 ((j : Int) + 1) = (j : Int) + 1 := IntWalk.wrap64_in _ (by have := H12.out; omega)
        clear hd hh hlx hld hr hal hGR hlye hlee hm
        cases hgy : greatB [(t, (b1, ly, f1), (b2, le, f2))]
        case true =>
         have HV : Hid (ts.any oddPo = true) := Lib.hid (HYES.out (by rw [HOD.out, List.any_eq_true.2 ⟨_, List.mem_of_getElem? HD.out, HGM.out.trans hgy⟩]; simp))
         rw [hgy] at HGR
         clear hgy
         go_wp2_with (first | (refine wpList_val (.agg #[.int .i64 v, .bool t, .slice b1 ly f1, .slice b2 le f2]) (run_load_op 51 (.tmp 33) (by with_reducible rfl) g2 (off + j * 4) (by rfl) _ _ hr4 Tryz.underlying51 rfl (by rw [size_mono]; rfl)) (by rfl) ?_) | (with_reducible refine wpList_alloc_agg rfl 51 rfl zMono zero_mono ?_) | (refine wpList_store_new rfl 51 (.tmp 6) (.tmp 34) (by with_reducible rfl) wr zMono #[.int .i64 v, .bool t, .slice b1 ly f1, .slice b2 le f2] (by rfl) (by rfl) (by rfl) (by rw [size_mono]; rfl) (by rfl) (one_mono ⟨v, t, b1, ly, f1, b2, le, f2⟩) ?_))
         refine HGR.out.mono ?_
         rintro e w9 ⟨rfl, h9⟩
         have HB9 := Lib.hid (HB8.out.trans ((HBJ.out.trans (h9.out.mono HBJ.out.size)).mono HB8.out.size))
         clear h9 HGR m0 m1 m2 m3
         go_wp2_with fail
         go_ret
         exact GivesV.mk' (by rw [HV.out]; rfl) HB9.out
        case false =>
         have HJ2 := Lib.hid (any_take HD.out HJ.out (HGM.out.trans hgy))
         rw [hgy] at HGR
         clear hgy
         go_wp2_with (first | (refine wpList_val (.agg #[.int .i64 v, .bool t, .slice b1 ly f1, .slice b2 le f2]) (run_load_op 51 (.tmp 33) (by with_reducible rfl) g2 (off + j * 4) (by rfl) _ _ hr4 Tryz.underlying51 rfl (by rw [size_mono]; rfl)) (by rfl) ?_) | (with_reducible refine wpList_alloc_agg rfl 51 rfl zMono zero_mono ?_) | (refine wpList_store_new rfl 51 (.tmp 6) (.tmp 34) (by with_reducible rfl) wr zMono #[.int .i64 v, .bool t, .slice b1 ly f1, .slice b2 le f2] (by rfl) (by rfl) (by rfl) (by rw [size_mono]; rfl) (by rfl) (one_mono ⟨v, t, b1, ly, f1, b2, le, f2⟩) ?_))
         refine HGR.out.mono ?_
         rintro e w9 ⟨rfl, h9⟩
         have HB9 := Lib.hid (HBJ.out.trans (h9.out.mono HBJ.out.size))
         clear h9 HGR m0 m1 m2 m3
         go_wp2_with fail
         go_roundw
         case rel => exact ⟨j + 1, by omega, by go_num, HJ2, HB9⟩
         case measure => first | exact measure_next hjw hjn | exact measure_next rfl hjn
       ·obtain rfl : j = n := by omega
        have HV : Hid ((ts.take (k + 1)).any oddPo = false) := Lib.hid (HNO.out (by
         have h1 := HJ.out
         rw [List.take_of_length_le (by rw [HL.out]; exact Nat.le_refl _)] at h1
         rw [HOD.out, HG0.out, HRP.out, h1, decide_eq_false H12.out]; rfl))
        have HB9 := Lib.hid (HB8.out.trans (HBJ.out.mono HB8.out.size))
        go_wp2_with fail
        go_roundw
        case rel => exact ⟨k + 1, by omega, by go_num, HV, HB9⟩
        case measure => first | exact measure_next hiw hlt | exact measure_next rfl hlt
  ·obtain rfl : k = N := by omega
   go_wp2_with fail
   go_ret
   exact GivesV.mk' (by have := HE0.out; rw [List.take_of_length_le (by rw [HN.out]; exact Nat.le_refl _)] at this; rw [this]; rfl) HB.out
end Go.Proofs.YtpjeecahaeaajaaGreatDoor
