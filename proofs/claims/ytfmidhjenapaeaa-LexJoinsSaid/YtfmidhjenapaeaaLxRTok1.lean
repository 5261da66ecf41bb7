/-
  Layer 7, the document's answer: one token, a parenthesis.
-/
import Derived.Test.YtfmidhjenapaeaaLxRTk
set_option linter.unusedVariables false
set_option linter.unusedSimpArgs false
namespace Go.Proofs.Ytfmidhjenapaeaa
open Go.RowKit Lx

section
variable {w : World} {a : Option Addr} {c : Nat} {bs : List Int} {i : Nat}
set_option maxRecDepth 100000 in
set_option maxHeartbeats 8000000 in
theorem ref_open (hb : BytesAt w a bs) (ok : TextOk a bs c) (hi : i < bs.length) (hx : bs.getD i 0 = 40) : Calls Try.prog 15 #[.slice a bs.length c, .int .i64 (i : Int)] w (TokRes w i (.tok 1 [40] (i + 1))) := by
  have HTR := Lib.hid (TrAt.start hb i)
  have HB0 := hb.kept (w' := w.alloc (.cells zTok.toArray 38)) ((Below.refl _ _).alloc (Nat.le_refl _) _)
  obtain ⟨g, off, rfl, hc⟩ := HB0.at hi
  have hsm := ok.small
  have HCAP := Lib.hid (And.intro ok.cap hi)
  have hget : bs[i]? = some (bs.getD i 0) := by simp [hi]
  obtain ⟨L, hL⟩ : ∃ L, bs.length = L := ⟨_, rfl⟩
  have HL := Lib.hid hL
  rw [hL] at hsm ⊢
  have hiL : (i : Int) < (L : Int) := by omega
  have HCAST : Hid (((i + 1 : Nat) : Int) = (i : Int) + 1) := Lib.hid (by omega)
  have hS : Lx.seg bs i (i + 1) = [40] := by rw [seg_cons (by omega) (by omega), seg_self, hx]
  rw [hx] at hc
  have zs := fun w => (zero_of_info zero_token).1 w
  obtain ⟨W0, hW0⟩ : ∃ W0, W0 = w.alloc (.cells zTok.toArray 38) := ⟨_, rfl⟩
  rw [← hW0] at hc HTR
  obtain ⟨W1, hW1⟩ : ∃ W1, W1 = W0.alloc (.cells (tk3 0 { data := #[] } i).toArray 38) := ⟨_, rfl⟩
  rw [← hW1] at HTR
  have hws : W0.heap.size = w.heap.size + 1 := by rw [hW0]; simp
  have HWS := Lib.hid hws
  have HW0 := Lib.hid hW0
  have HW1 := Lib.hid hW1
  have hszZ := tkSize 0 { data := #[] } i
  have hallZ := all_tk 0 { data := #[] } i
  obtain ⟨k0, k1, kf⟩ := HTR.out.cells
  clear hW0 hW1 hb ok HB0 hi hL hget hws
  go_enter Try.func15, Try.ntmps15
  have htx := ((HTR.out.kind 1)).text.cut (i := i) (j := i + 1) (c := c) HCAP.out.2 HCAP.out.1
  rw [hS] at htx
  obtain ⟨S, hSS⟩ : ∃ S : List Int, S = [40] := ⟨_, rfl⟩
  rw [← hSS] at htx ⊢
  have HTX := Lib.hid htx
  have HSL : Hid (S.length = i + 1 - i) := Lib.hid (by rw [hSS]; simp)
  have HJ : Hid (i ≤ i + 1 ∧ i + 1 ≤ c) := Lib.hid ⟨by omega, by have := HCAP.out; omega⟩
  have HFN := Lib.hid (((HTR.out.kind 1).words (txt S)).fin)
  clear hS hSS htx hx
  go_wp2_with (first | (with_reducible refine wpList_alloc_agg rfl 38 rfl zTok.toArray zs ?_; (try rw [← HW0.out])) | (with_reducible refine wpList_store_new rfl 38 (.tmp 8) (.tmp 17) rfl W0 zTok.toArray (tk3 0 { data := #[] } i).toArray rfl rfl rfl (by simpa using hszZ) rfl hallZ ?_; rw [← HW1.out, HWS.out]) | (refine wpList_val (.slice (cutA (some ⟨g, off, none⟩) (i) c) S.length (c - (i))) (by rw [HSL.out]; exact run_slice_op (.tmp 30) (.tmp 31) (.tmp 32) rfl _ L c (i) (i + 1) rfl rfl rfl HJ.out.1 HJ.out.2) (by rfl) ?_) | (refine wpList_val (.string (txt S)) (run_txt_op (.tmp 33) (by with_reducible rfl) (cutA (some ⟨g, off, none⟩) (i) c) S (c - (i)) (by rfl) HTX.out) (by rfl) ?_) | (with_reducible refine wpList_load_mid rfl 38 (.tmp 8) rfl (w.heap.size + 1) 0 rfl (tk3 1 (txt S) i) _ HFN.out.1 Try.underlying38 rfl (tkSize 1 (txt S) i) ?_) | (with_reducible refine wpList_store_mid rfl 38 (.tmp 4) (.tmp 36) rfl w.heap.size 0 (tk3 1 (txt S) i).toArray rfl rfl HFN.out.2.1 (by rw [List.size_toArray]; exact tkSize 1 (txt S) i) (all_tk 1 (txt S) i) ?_))
  refine bodyPost_ret (v := .tuple #[.agg #[.int .i64 1, .string (txt S), .int .i64 (i : Int)], .int .i64 ((i : Int) + 1), .int .i64 (-1)]) ?_ rfl (⟨by rw [HCAST.out], HFN.out.2.2.1⟩)
  have := HFN.out.2.2.2
  simp [results, Try.results15, asAddr, Act.put, this]
set_option maxRecDepth 100000 in
set_option maxHeartbeats 8000000 in
theorem ref_close (hb : BytesAt w a bs) (ok : TextOk a bs c) (hi : i < bs.length) (hx : bs.getD i 0 = 41) : Calls Try.prog 15 #[.slice a bs.length c, .int .i64 (i : Int)] w (TokRes w i (.tok 2 [41] (i + 1))) := by
  have HTR := Lib.hid (TrAt.start hb i)
  have HB0 := hb.kept (w' := w.alloc (.cells zTok.toArray 38)) ((Below.refl _ _).alloc (Nat.le_refl _) _)
  obtain ⟨g, off, rfl, hc⟩ := HB0.at hi
  have hsm := ok.small
  have HCAP := Lib.hid (And.intro ok.cap hi)
  have hget : bs[i]? = some (bs.getD i 0) := by simp [hi]
  obtain ⟨L, hL⟩ : ∃ L, bs.length = L := ⟨_, rfl⟩
  have HL := Lib.hid hL
  rw [hL] at hsm ⊢
  have hiL : (i : Int) < (L : Int) := by omega
  have HCAST : Hid (((i + 1 : Nat) : Int) = (i : Int) + 1) := Lib.hid (by omega)
  have hS : Lx.seg bs i (i + 1) = [41] := by rw [seg_cons (by omega) (by omega), seg_self, hx]
  rw [hx] at hc
  have zs := fun w => (zero_of_info zero_token).1 w
  obtain ⟨W0, hW0⟩ : ∃ W0, W0 = w.alloc (.cells zTok.toArray 38) := ⟨_, rfl⟩
  rw [← hW0] at hc HTR
  obtain ⟨W1, hW1⟩ : ∃ W1, W1 = W0.alloc (.cells (tk3 0 { data := #[] } i).toArray 38) := ⟨_, rfl⟩
  rw [← hW1] at HTR
  have hws : W0.heap.size = w.heap.size + 1 := by rw [hW0]; simp
  have HWS := Lib.hid hws
  have HW0 := Lib.hid hW0
  have HW1 := Lib.hid hW1
  have hszZ := tkSize 0 { data := #[] } i
  have hallZ := all_tk 0 { data := #[] } i
  obtain ⟨k0, k1, kf⟩ := HTR.out.cells
  clear hW0 hW1 hb ok HB0 hi hL hget hws
  go_enter Try.func15, Try.ntmps15
  have htx := (((HTR.out.kind 1).kind 2)).text.cut (i := i) (j := i + 1) (c := c) HCAP.out.2 HCAP.out.1
  rw [hS] at htx
  obtain ⟨S, hSS⟩ : ∃ S : List Int, S = [41] := ⟨_, rfl⟩
  rw [← hSS] at htx ⊢
  have HTX := Lib.hid htx
  have HSL : Hid (S.length = i + 1 - i) := Lib.hid (by rw [hSS]; simp)
  have HJ : Hid (i ≤ i + 1 ∧ i + 1 ≤ c) := Lib.hid ⟨by omega, by have := HCAP.out; omega⟩
  have HFN := Lib.hid ((((HTR.out.kind 1).kind 2).words (txt S)).fin)
  clear hS hSS htx hx
  go_wp2_with (first | (with_reducible refine wpList_alloc_agg rfl 38 rfl zTok.toArray zs ?_; (try rw [← HW0.out])) | (with_reducible refine wpList_store_new rfl 38 (.tmp 8) (.tmp 17) rfl W0 zTok.toArray (tk3 0 { data := #[] } i).toArray rfl rfl rfl (by simpa using hszZ) rfl hallZ ?_; rw [← HW1.out, HWS.out]) | (refine wpList_val (.slice (cutA (some ⟨g, off, none⟩) (i) c) S.length (c - (i))) (by rw [HSL.out]; exact run_slice_op (.tmp 30) (.tmp 31) (.tmp 32) rfl _ L c (i) (i + 1) rfl rfl rfl HJ.out.1 HJ.out.2) (by rfl) ?_) | (refine wpList_val (.string (txt S)) (run_txt_op (.tmp 33) (by with_reducible rfl) (cutA (some ⟨g, off, none⟩) (i) c) S (c - (i)) (by rfl) HTX.out) (by rfl) ?_) | (with_reducible refine wpList_load_mid rfl 38 (.tmp 8) rfl (w.heap.size + 1) 0 rfl (tk3 2 (txt S) i) _ HFN.out.1 Try.underlying38 rfl (tkSize 2 (txt S) i) ?_) | (with_reducible refine wpList_store_mid rfl 38 (.tmp 4) (.tmp 36) rfl w.heap.size 0 (tk3 2 (txt S) i).toArray rfl rfl HFN.out.2.1 (by rw [List.size_toArray]; exact tkSize 2 (txt S) i) (all_tk 2 (txt S) i) ?_))
  refine bodyPost_ret (v := .tuple #[.agg #[.int .i64 2, .string (txt S), .int .i64 (i : Int)], .int .i64 ((i : Int) + 1), .int .i64 (-1)]) ?_ rfl (⟨by rw [HCAST.out], HFN.out.2.2.1⟩)
  have := HFN.out.2.2.2
  simp [results, Try.results15, asAddr, Act.put, this]
end
end Go.Proofs.Ytfmidhjenapaeaa
