/-
  SexpReads: the law's walk.
-/
import Derived.Test.YtgojipnhnmigpaaSxSpk
set_option linter.unusedVariables false
set_option linter.unusedSimpArgs false
namespace Go.Proofs.Ytgojipnhnmigpaa
open Go.RowKit Sx

set_option maxRecDepth 100000 in
set_option maxHeartbeats 8000000 in
theorem reads_walk8 {w : World} {a : Option Addr} {ts : List Tk} {c : Nat} (hin : TksIn w a ts c) : Calls Try.prog 3 #[.slice a ts.length c] w (Yes w) := by
  have HSP := Lib.hid (speaks08 w)
  by_cases hl : 4000 < ts.length
  · obtain ⟨L, hL⟩ : ∃ L, ts.length = L := ⟨_, rfl⟩
    rw [hL] at hl ⊢
    have hl' : (4000 : Int) < (L : Int) := by omega
    clear hL hin
    go_enter Try.func3, Try.ntmps3
    go_wp2_with fail
    refine HSP.out.mono ?_
    rintro e w1 ⟨rfl, hb1⟩
    have HB1 := Lib.hid hb1
    clear hb1
    go_wp2_with fail
    go_ret
    exact ⟨rfl, HB1.out⟩
  · have HSR : Hid (∀ W, Below w.heap.size w W → Calls Try.prog 7 #[.slice a ts.length c] W (SRead ts W)) := Lib.hid fun W hb => SRead_any ⟨hin.at_.kept hb, hin.cap, hin.capped, hin.mid⟩ (by omega)
    have HRR : Hid (∀ W, Below w.heap.size w W → Calls Try.prog 8 #[.slice a ts.length c] W (RRead ts W)) := Lib.hid fun W hb => RRead_any ⟨hin.at_.kept hb, hin.cap, hin.capped, hin.mid⟩ (by omega)
    obtain ⟨L, hL⟩ : ∃ L, ts.length = L := ⟨_, rfl⟩
    rw [hL] at hl HSR HRR ⊢
    have hl' : ¬ (4000 : Int) < (L : Int) := by omega
    clear hL hin
    go_enter Try.func3, Try.ntmps3
    go_wp2_with fail
    refine HSP.out.mono ?_
    rintro e w1 ⟨rfl, hb1⟩
    have HB1 := Lib.hid hb1
    clear hb1
    go_wp2_with fail
    refine (HSR.out w1 HB1.out).mono ?_
    rintro e w2 ⟨hb2, h2⟩
    have hb20 := HB1.out.trans (hb2.mono HB1.out.size)
    cases hrs : readS ts with
    | error x =>
      rw [hrs] at h2
      obtain ⟨cc, pp⟩ := x
      obtain ⟨hne, rfl⟩ := h2
      dsimp only at hne ⊢
      have b3 : Below w2.heap.size w2 (w2.alloc (.cells #[.int .i64 cc, .int .i64 pp] 27)) := box_below w2 _ _
      have hb3 := hb20.trans (b3.mono hb20.size)
      have HR3 := Lib.hid (HRR.out _ hb3)
      have HF := Lib.hid (rangeAt_new w2 [.int .i64 cc, .int .i64 pp] 27)
      have hne' : (cc == 0) = false := by simpa using hne
      have HRS := Lib.hid hrs
      have HB3 := Lib.hid hb3
      clear hne hb2 hb20 b3 hb3 hrs
      go_wp2_with fail
      refine HR3.out.mono ?_
      rintro e w4 ⟨hb4, h4⟩
      rw [HRS.out] at h4
      obtain ⟨_, rfl⟩ := h4
      dsimp only
      have f0 : w4.cell? ⟨w2.heap.size, 0, none⟩ = some (.int .i64 cc) := (hb4.cell (p := ⟨w2.heap.size, 0, none⟩) (World.block_lt_of_cell? _ _ (HF.out 0 _ rfl))).trans (HF.out 0 _ rfl)
      have f1 : w4.cell? ⟨w2.heap.size, 1, none⟩ = some (.int .i64 pp) := (hb4.cell (p := ⟨w2.heap.size, 1, none⟩) (World.block_lt_of_cell? _ _ (HF.out 1 _ rfl))).trans (HF.out 1 _ rfl)
      have HB4 := Lib.hid (HB3.out.trans (hb4.mono HB3.out.size))
      clear hb4 HR3
      go_wp2_with fail
      go_ret
      exact ⟨rfl, HB4.out⟩
    | ok y =>
      rw [hrs] at h2
      obtain ⟨v, rfl, hv⟩ := h2
      have b3 : Below w2.heap.size w2 (w2.alloc (.cells #[.int .i64 0, .int .i64 0] 27)) := box_below w2 _ _
      have hb3 := hb20.trans (b3.mono hb20.size)
      have HR3 := Lib.hid (HRR.out _ hb3)
      have HF := Lib.hid (rangeAt_new w2 [.int .i64 0, .int .i64 0] 27)
      have HV := Lib.hid ((hv.kept b3).any)
      have HRS := Lib.hid hrs
      have HB3 := Lib.hid hb3
      clear hb2 hb20 b3 hb3 hrs hv
      go_wp2_with fail
      refine HR3.out.mono ?_
      rintro e w4 ⟨hb4, h4⟩
      rw [HRS.out] at h4
      obtain ⟨v', rfl, hv'⟩ := h4
      have HF4 : Hid (w4.rangeAt w2.heap.size 0 [.int .i64 0, .int .i64 0]) := Lib.hid fun j u hu => (hb4.cell (p := ⟨w2.heap.size, 0 + j, none⟩) (World.block_lt_of_cell? _ _ (HF.out j u hu))).trans (HF.out j u hu)
      have HSM := Lib.hid (LSame_any (HV.out.kept hb4) hv'.any)
      have HB4 := Lib.hid (HB3.out.trans (hb4.mono HB3.out.size))
      clear hb4 HR3 hv'
      go_wp2_with (first | (refine wpList_val (.agg #[.int .i64 0, .int .i64 0]) (run_load_op 27 (.tmp 4) (by with_reducible rfl) w2.heap.size 0 (by rfl) [.int .i64 0, .int .i64 0] _ HF4.out Try.underlying27 rfl (by rw [size_fault]; rfl)) (by rfl) ?_))
      refine HSM.out.mono ?_
      rintro e w5 ⟨rfl, hb5⟩
      have HB5 := Lib.hid (HB4.out.trans (hb5.mono HB4.out.size))
      clear hb5 HSM
      go_wp2_with fail
      go_ret
      exact ⟨rfl, HB5.out⟩
end Go.Proofs.Ytgojipnhnmigpaa
