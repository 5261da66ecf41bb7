/-
  Layer 7, the document's answer: one token, a symbol; nothing.
-/
import Derived.Test.YtfmidhjenapaeaaLxRTk
set_option linter.unusedVariables false
set_option linter.unusedSimpArgs false
namespace Go.Proofs.Ytfmidhjenapaeaa
open Go.RowKit Lx

section
variable {w : World} {a : Option Addr} {c : Nat} {bs : List Int} {i : Nat}
set_option maxRecDepth 100000 in
set_option maxHeartbeats 8000000 in
theorem ref_none (hb : BytesAt w a bs) (ok : TextOk a bs c) (hi : i < bs.length) (h40 : bs.getD i 0 ≠ 40) (h41 : bs.getD i 0 ≠ 41) (h124 : bs.getD i 0 ≠ 124) (h34 : bs.getD i 0 ≠ 34) (h58 : bs.getD i 0 ≠ 58) (hinn : innerB (bs.getD i 0) = false) (hdig : digitB (bs.getD i 0) = false) : Calls Try.prog 15 #[.slice a bs.length c, .int .i64 (i : Int)] w (TokRes w i (.bad i)) := by
  have HTR := Lib.hid (TrAt.start hb i)
  have HB0 := hb.kept (w' := w.alloc (.cells zTok.toArray 38)) ((Below.refl _ _).alloc (Nat.le_refl _) _)
  obtain ⟨g, off, rfl, hc⟩ := HB0.at hi
  have hsm := ok.small
  have HCAP := Lib.hid (And.intro ok.cap hi)
  have hget : bs[i]? = some (bs.getD i 0) := by simp [hi]
  obtain ⟨L, hL⟩ : ∃ L, bs.length = L := ⟨_, rfl⟩
  have HL := Lib.hid hL
  rw [hL] at hsm ⊢
  have hiL : (i : Int) < (L : Int) := by omega
  have HCAST : Hid (((i + 1 : Nat) : Int) = (i : Int) + 1) := Lib.hid (by omega)
  obtain ⟨x, hx⟩ : ∃ x, bs.getD i 0 = x := ⟨_, rfl⟩
  rw [hx] at hc h40 h41 h124 h34 h58 hinn hdig
  have hn40 : (x == 40) = false := by simp; omega
  have hn41 : (x == 41) = false := by simp; omega
  have hn124 : (x == 124) = false := by simp; omega
  have hn34 : (x == 34) = false := by simp; omega
  have hn58 : (x == 58) = false := by simp; omega
  clear h40 h41 h124 h34 h58 hx
  have zs := fun w => (zero_of_info zero_token).1 w
  obtain ⟨W0, hW0⟩ : ∃ W0, W0 = w.alloc (.cells zTok.toArray 38) := ⟨_, rfl⟩
  rw [← hW0] at hc HTR
  obtain ⟨W1, hW1⟩ : ∃ W1, W1 = W0.alloc (.cells (tk3 0 { data := #[] } i).toArray 38) := ⟨_, rfl⟩
  rw [← hW1] at HTR
  have hws : W0.heap.size = w.heap.size + 1 := by rw [hW0]; simp
  have HWS := Lib.hid hws
  have HW0 := Lib.hid hW0
  have HW1 := Lib.hid hW1
  have hszZ := tkSize 0 { data := #[] } i
  have hallZ := all_tk 0 { data := #[] } i
  obtain ⟨k0, k1, kf⟩ := HTR.out.cells
  clear hW0 hW1 hb ok HB0 hi hL hget hws
  go_enter Try.func15, Try.ntmps15
  have HIN := Lib.hid (inner_any W1 x)
  rw [hinn] at HIN
  clear hinn hdig
  go_wp2_with (first | (with_reducible refine wpList_alloc_agg rfl 38 rfl zTok.toArray zs ?_; (try rw [← HW0.out])) | (with_reducible refine wpList_store_new rfl 38 (.tmp 8) (.tmp 17) rfl W0 zTok.toArray (tk3 0 { data := #[] } i).toArray rfl rfl rfl (by simpa using hszZ) rfl hallZ ?_; rw [← HW1.out, HWS.out]))
  refine HIN.out.mono ?_
  rintro e w2 ⟨rfl, rfl⟩
  have HFN := Lib.hid HTR.out.fin
  go_wp2_with (first | (with_reducible refine wpList_load_mid rfl 38 (.tmp 8) rfl (w.heap.size + 1) 0 rfl (tk3 0 { data := #[] } i) _ HFN.out.1 Try.underlying38 rfl (tkSize 0 { data := #[] } i) ?_) | (with_reducible refine wpList_store_mid rfl 38 (.tmp 4) (.tmp 178) rfl w.heap.size 0 (tk3 0 { data := #[] } i).toArray rfl rfl HFN.out.2.1 (by rw [List.size_toArray]; exact tkSize 0 { data := #[] } i) (all_tk 0 { data := #[] } i) ?_))
  refine bodyPost_ret (v := .tuple #[.agg #[.int .i64 0, .string { data := #[] }, .int .i64 (i : Int)], .int .i64 (0), .int .i64 ((i : Int))]) ?_ rfl (by exact ⟨⟨_, _, _, rfl⟩, HFN.out.2.2.1⟩)
  have := HFN.out.2.2.2
  simp [results, Try.results15, asAddr, Act.put, this]
set_option maxRecDepth 100000 in
set_option maxHeartbeats 8000000 in
theorem ref_symbol (hb : BytesAt w a bs) (ok : TextOk a bs c) (hi : i < bs.length) (h40 : bs.getD i 0 ≠ 40) (h41 : bs.getD i 0 ≠ 41) (h124 : bs.getD i 0 ≠ 124) (h34 : bs.getD i 0 ≠ 34) (h58 : bs.getD i 0 ≠ 58) (hinn : innerB (bs.getD i 0) = true) (hdig : digitB (bs.getD i 0) = false) : Calls Try.prog 15 #[.slice a bs.length c, .int .i64 (i : Int)] w (TokRes w i (.tok 3 (Lx.seg bs i (run innerB bs i)) (run innerB bs i))) := by
  have HTR := Lib.hid (TrAt.start hb i)
  have HB0 := hb.kept (w' := w.alloc (.cells zTok.toArray 38)) ((Below.refl _ _).alloc (Nat.le_refl _) _)
  obtain ⟨g, off, rfl, hc⟩ := HB0.at hi
  have hsm := ok.small
  have HCAP := Lib.hid (And.intro ok.cap hi)
  have hget : bs[i]? = some (bs.getD i 0) := by simp [hi]
  obtain ⟨L, hL⟩ : ∃ L, bs.length = L := ⟨_, rfl⟩
  have HL := Lib.hid hL
  rw [hL] at hsm ⊢
  have hiL : (i : Int) < (L : Int) := by omega
  have HCAST : Hid (((i + 1 : Nat) : Int) = (i : Int) + 1) := Lib.hid (by omega)
  have hrun : run innerB bs i = run innerB bs (i + 1) := run_yes (by rw [sees_some hget]; exact hinn)
  have HRUN := Lib.hid hrun
  obtain ⟨x, hx⟩ : ∃ x, bs.getD i 0 = x := ⟨_, rfl⟩
  rw [hx] at hc h40 h41 h124 h34 h58 hinn hdig
  have hn40 : (x == 40) = false := by simp; omega
  have hn41 : (x == 41) = false := by simp; omega
  have hn124 : (x == 124) = false := by simp; omega
  have hn34 : (x == 34) = false := by simp; omega
  have hn58 : (x == 58) = false := by simp; omega
  clear h40 h41 h124 h34 h58 hx
  have zs := fun w => (zero_of_info zero_token).1 w
  obtain ⟨W0, hW0⟩ : ∃ W0, W0 = w.alloc (.cells zTok.toArray 38) := ⟨_, rfl⟩
  rw [← hW0] at hc HTR
  obtain ⟨W1, hW1⟩ : ∃ W1, W1 = W0.alloc (.cells (tk3 0 { data := #[] } i).toArray 38) := ⟨_, rfl⟩
  rw [← hW1] at HTR
  have hws : W0.heap.size = w.heap.size + 1 := by rw [hW0]; simp
  have HWS := Lib.hid hws
  have HW0 := Lib.hid hW0
  have HW1 := Lib.hid hW1
  have hszZ := tkSize 0 { data := #[] } i
  have hallZ := all_tk 0 { data := #[] } i
  obtain ⟨k0, k1, kf⟩ := HTR.out.cells
  clear hW0 hW1 hb ok HB0 hi hL hget hws
  go_enter Try.func15, Try.ntmps15
  have HIN := Lib.hid (inner_any W1 x)
  have HDG := Lib.hid (digit_any W1 x)
  rw [hinn] at HIN
  rw [hdig] at HDG
  have HK0 : Hid (i + 1 ≤ L) := Lib.hid (by omega)
  clear hinn hdig hrun
  go_wp2_with (first | (with_reducible refine wpList_alloc_agg rfl 38 rfl zTok.toArray zs ?_; (try rw [← HW0.out])) | (with_reducible refine wpList_store_new rfl 38 (.tmp 8) (.tmp 17) rfl W0 zTok.toArray (tk3 0 { data := #[] } i).toArray rfl rfl rfl (by simpa using hszZ) rfl hallZ ?_; rw [← HW1.out, HWS.out]))
  refine HIN.out.mono ?_
  rintro e w2 ⟨rfl, rfl⟩
  go_wp2_with fail
  refine HDG.out.mono ?_
  rintro e w2 ⟨rfl, rfl⟩
  go_wp2_with fail
  obtain ⟨J, hJ⟩ : ∃ J, run innerB bs (i + 1) = J := ⟨_, rfl⟩
  have HJQ := Lib.hid hJ
  clear hJ
  go_loop [9] (fun (v : Value) => ∃ m : Nat, i + 1 ≤ m ∧ m ≤ L ∧ v = .int .i64 (m : Int) ∧ Hid (run innerB bs m = J)) (fun v => L - (intOf v).toNat)
  case atStart => exact ⟨i + 1, Nat.le_refl _, by have := HK0.out; omega, by first | rfl | go_num, Lib.hid (by rw [HJQ.out])⟩
  case round =>
    obtain ⟨m, hkm, hm, rfl, HM⟩ := hrel
    by_cases hml : m < L
    · have hmb : m < bs.length := by rw [HL.out]; exact hml
      obtain ⟨g2, off2, e2, hc2⟩ := (HTR.out.text).at hmb
      cases e2
      have hse : Lx.sees innerB bs m = innerB (bs.getD m 0) := sees_at hmb
      have hgetm : bs[m]? = some (bs.getD m 0) := by simp [hmb]
      obtain ⟨y, hy⟩ : ∃ y, bs.getD m 0 = y := ⟨_, rfl⟩
      rw [hy] at hc2 hse hgetm
      have HY := Lib.hid (And.intro hgetm hkm)
      have HT := Lib.hid (inner_any W1 y)
      have hmL : (m : Int) < (L : Int) := by omega
      by_cases hp : innerB y = true
      · have hn : Hid (run innerB bs (m + 1) = J) := Lib.hid (by rw [← run_yes (by rw [hse]; exact hp)]; exact HM.out)
        rw [hp] at HT
        clear hse hp hmb hm hy hgetm hkm
        go_wp2_with fail
        refine HT.out.mono ?_
        rintro e w2 ⟨rfl, rfl⟩
        go_wp2_with fail
        go_roundw
        case rel => exact ⟨m + 1, by have := HY.out.2; omega, by omega, by go_num, hn⟩
        case measure => simp [intOf]; omega
      · have hp' : innerB y = false := by simpa using hp
        have hJm : J = m := by rw [← HM.out]; exact run_no (by rw [hse]; exact hp')
        subst hJm
        rw [hp'] at HT
        have HPN := Lib.hid hp'
        clear hse hp hp' hmb hm hy hgetm hkm
        go_wp2_with fail
        refine HT.out.mono ?_
        rintro e w2 ⟨rfl, rfl⟩
        have HJL : Hid (i ≤ J ∧ J ≤ bs.length) := Lib.hid ⟨by have := HY.out.2; omega, by have := at_lt HY.out.1; omega⟩
        have hr : Res.tok 3 (Lx.seg bs i (run innerB bs i)) (run innerB bs i) = Res.tok 3 (Lx.seg bs i J) J := by rw [HRUN.out, HJQ.out]
        have HR := Lib.hid hr
        clear hr
        have htx := (HTR.out.kind 3).text.cut (i := i) (j := J) (c := c) (by have := HJL.out; omega) HCAP.out.1
        have hsl : (Lx.seg bs (i) (J)).length = J - (i) := seg_length (by have := HJL.out; omega)
        obtain ⟨S, hSS⟩ : ∃ S : List Int, S = Lx.seg bs (i) (J) := ⟨_, rfl⟩
        rw [← hSS] at htx hsl
        have HSS := Lib.hid hSS
        have HTX := Lib.hid htx
        have HSL := Lib.hid hsl
        have HJ : Hid (i ≤ J ∧ J ≤ c) := Lib.hid ⟨by have := HJL.out; omega, by have := HJL.out; have := HCAP.out; omega⟩
        have HFN := Lib.hid (((HTR.out.kind 3).words (txt S)).fin)
        clear hSS htx hsl
        go_wp2_with (first | (refine wpList_val (.slice (cutA (some ⟨g, off, none⟩) (i) c) S.length (c - (i))) (by rw [HSL.out]; exact run_slice_op (.tmp 197) (.tmp 198) (.tmp 199) rfl _ L c (i) (J) rfl rfl rfl HJ.out.1 HJ.out.2) (by rfl) ?_) | (refine wpList_val (.string (txt S)) (run_txt_op (.tmp 200) (by with_reducible rfl) (cutA (some ⟨g, off, none⟩) (i) c) S (c - (i)) (by rfl) HTX.out) (by rfl) ?_) | (with_reducible refine wpList_load_mid rfl 38 (.tmp 8) rfl (w.heap.size + 1) 0 rfl (tk3 3 (txt S) i) _ HFN.out.1 Try.underlying38 rfl (tkSize 3 (txt S) i) ?_) | (with_reducible refine wpList_store_mid rfl 38 (.tmp 4) (.tmp 203) rfl w.heap.size 0 (tk3 3 (txt S) i).toArray rfl rfl HFN.out.2.1 (by rw [List.size_toArray]; exact tkSize 3 (txt S) i) (all_tk 3 (txt S) i) ?_))
        refine bodyPost_ret (v := .tuple #[.agg #[.int .i64 3, .string (txt S), .int .i64 (i : Int)], .int .i64 ((J : Int)), .int .i64 (-1)]) ?_ rfl (by rw [HR.out, ← HSS.out]; exact ⟨by first | rfl | (simp; done), HFN.out.2.2.1⟩)
        have := HFN.out.2.2.2
        simp [results, Try.results15, asAddr, Act.put, this]
    · have hJm : J = m := by rw [← HM.out]; exact run_no (sees_out (by rw [HL.out]; omega))
      have hmeq : m = L := by omega
      have hmL : decide ((m : Int) < (L : Int)) = false := by simp; omega
      have HKM := Lib.hid hkm
      have HML := Lib.hid hmeq
      subst hJm
      clear hkm hm hmeq
      have HJL : Hid (i ≤ J ∧ J ≤ bs.length) := Lib.hid ⟨by have := HKM.out; omega, by rw [HL.out, HML.out]; omega⟩
      have hr : Res.tok 3 (Lx.seg bs i (run innerB bs i)) (run innerB bs i) = Res.tok 3 (Lx.seg bs i J) J := by rw [HRUN.out, HJQ.out]
      have HR := Lib.hid hr
      clear hr
      have htx := (HTR.out.kind 3).text.cut (i := i) (j := J) (c := c) (by have := HJL.out; omega) HCAP.out.1
      have hsl : (Lx.seg bs (i) (J)).length = J - (i) := seg_length (by have := HJL.out; omega)
      obtain ⟨S, hSS⟩ : ∃ S : List Int, S = Lx.seg bs (i) (J) := ⟨_, rfl⟩
      rw [← hSS] at htx hsl
      have HSS := Lib.hid hSS
      have HTX := Lib.hid htx
      have HSL := Lib.hid hsl
      have HJ : Hid (i ≤ J ∧ J ≤ c) := Lib.hid ⟨by have := HJL.out; omega, by have := HJL.out; have := HCAP.out; omega⟩
      have HFN := Lib.hid (((HTR.out.kind 3).words (txt S)).fin)
      clear hSS htx hsl
      go_wp2_with (first | (refine wpList_val (.slice (cutA (some ⟨g, off, none⟩) (i) c) S.length (c - (i))) (by rw [HSL.out]; exact run_slice_op (.tmp 197) (.tmp 198) (.tmp 199) rfl _ L c (i) (J) rfl rfl rfl HJ.out.1 HJ.out.2) (by rfl) ?_) | (refine wpList_val (.string (txt S)) (run_txt_op (.tmp 200) (by with_reducible rfl) (cutA (some ⟨g, off, none⟩) (i) c) S (c - (i)) (by rfl) HTX.out) (by rfl) ?_) | (with_reducible refine wpList_load_mid rfl 38 (.tmp 8) rfl (w.heap.size + 1) 0 rfl (tk3 3 (txt S) i) _ HFN.out.1 Try.underlying38 rfl (tkSize 3 (txt S) i) ?_) | (with_reducible refine wpList_store_mid rfl 38 (.tmp 4) (.tmp 203) rfl w.heap.size 0 (tk3 3 (txt S) i).toArray rfl rfl HFN.out.2.1 (by rw [List.size_toArray]; exact tkSize 3 (txt S) i) (all_tk 3 (txt S) i) ?_))
      refine bodyPost_ret (v := .tuple #[.agg #[.int .i64 3, .string (txt S), .int .i64 (i : Int)], .int .i64 ((J : Int)), .int .i64 (-1)]) ?_ rfl (by rw [HR.out, ← HSS.out]; exact ⟨by first | rfl | (simp; done), HFN.out.2.2.1⟩)
      have := HFN.out.2.2.2
      simp [results, Try.results15, asAddr, Act.put, this]
end
end Go.Proofs.Ytfmidhjenapaeaa
