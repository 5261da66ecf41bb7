/-
  Layer 6: the document's example; bytes as texts.
-/
import Derived.Test.YtienhidbgohhcaaSnTrans
import Derived.Laws.BytesString
import Derived.Lib.SlBytesConst
set_option linter.unusedVariables false
set_option linter.unusedSimpArgs false
namespace Go.Proofs.Ytienhidbgohhcaa
open Go.RowKit

def nine : List Int := [49, 50, 51, 52, 53, 54, 55, 56, 57]
theorem crc_nine : crcOf nine = 3421780262 := by decide +kernel
set_option maxRecDepth 100000 in
theorem speaks06 (w : World) : Calls Try.prog 4 #[] w (Says w) := by
  obtain ⟨W1, hW1⟩ : ∃ W1, W1 = w.alloc (.cells (bys nine).toArray 5 (9, 10)) := ⟨_, rfl⟩
  have HB : Hid (BytesAt W1 (some ⟨w.heap.size, 0, none⟩) nine) := Lib.hid (.inr ⟨_, 0, rfl, fun j u hu => by
    have : W1.heap[w.heap.size]? = some (.cells (bys nine).toArray 5 (9, 10)) := by rw [hW1]; exact heap_alloc_last w _
    simp only [World.cell?, this]
    simpa using hu⟩)
  have HS := Lib.hid (Sum_any _ _ nine 9 HB.out (by decide))
  rw [crc_nine] at HS
  have HR := Lib.hid (fun W => Room_any W 8 (by decide))
  have hcv : (convert 29 29 (.slice (some ⟨w.heap.size, 0, none⟩) 9 9)).run Try.prog (w.alloc (.cells #[.int .u8 49, .int .u8 50, .int .u8 51, .int .u8 52, .int .u8 53, .int .u8 54, .int .u8 55, .int .u8 56, .int .u8 57] 5)) = .ok (.slice (some ⟨w.heap.size, 0, none⟩) 9 9) W1 := by
    rw [hW1]
    exact Lib.run_convert_bytes_const w 29 5 _ 9 9 Try.underlying29 Try.underlying5
  have HB0 : Hid (Below w.heap.size w W1) := Lib.hid (by rw [hW1]; exact (Below.refl _ _).alloc (Nat.le_refl _) _)
  clear hW1
  have hroom : 64 * (8 / 2 - 1) = 192 := by decide
  go_enter Try.func4, Try.ntmps4
  go_wp2_with fail
  refine HS.out.mono ?_
  rintro e w1 ⟨rfl, hb1⟩
  have HB1 : Hid (Below w.heap.size w w1) := Lib.hid (HB0.out.trans (hb1.mono HB0.out.size))
  clear hb1 HS HB
  go_wp2_with fail
  refine (HR.out _).mono ?_
  rintro e w2 ⟨rfl, rfl⟩
  go_wp2_with fail
  go_ret
  exact ⟨rfl, HB1.out⟩
end Go.Proofs.Ytienhidbgohhcaa
