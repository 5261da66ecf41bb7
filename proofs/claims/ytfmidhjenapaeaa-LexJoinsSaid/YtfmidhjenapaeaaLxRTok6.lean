/-
  Layer 7, the document's answer: one token, a string.
-/
import Derived.Test.YtfmidhjenapaeaaLxRTk
set_option linter.unusedVariables false
set_option linter.unusedSimpArgs false
namespace Go.Proofs.Ytfmidhjenapaeaa
open Go.RowKit Lx

/-- What has been read of a string. -/
structure StrSt (w : World) (a : Option Addr) (bs : List Int) (i : Nat) (W : World) (v : Value) (m : Nat) (acc : List Int) : Prop where
  tr : TrAt w a bs W 0 { data := #[] } i
  row : Row8 W (w.heap.size + 2) v acc
  says : litP bs (i + 1) [] = litP bs m acc
  few : acc.length ≤ m
section
variable {w W W' : World} {a : Option Addr} {c : Nat} {bs acc : List Int} {i m : Nat} {v v' : Value}
theorem StrSt.start (h : TrAt w a bs W 0 { data := #[] } i) : StrSt w a bs i (W.alloc (.cells #[] 5)) (.slice (some ⟨W.heap.size, 0, none⟩) 0 0) (i + 1) [] :=
  ⟨h.grow (chg_alloc _ _), World.ownsRow_lit W #[] 0 h.size (by unfold maxLen; omega) rfl, rfl, by simp⟩
/-- One byte more. -/
theorem StrSt.more (h : StrSt w a bs i W v m acc) {y : Int} {m' : Nat} (hm : m < m') (hl : litP bs m acc = litP bs m' (acc ++ [y])) (hv : Row8 W' (w.heap.size + 2) v' (acc ++ [y])) (hg : (W.alloc (.cells #[.int .u8 y] 5)).grownBy W' v.ownBlock) :
    StrSt w a bs i W' v' m' (acc ++ [y]) := by
  have hr5 : Row8 (W.alloc (.cells #[.int .u8 y] 5)) (w.heap.size + 2) v acc := h.row.chg (S := fun _ => False) (chg_alloc _ _) (fun _ _ _ h => h)
  have := h.few
  exact ⟨(h.tr.grow (chg_alloc _ (.cells #[.int .u8 y] 5))).grow (hr5.grown_chg hg), hv, by rw [h.says, hl], by simp; omega⟩
/-- What the append of a byte needs. -/
theorem StrSt.room (h : StrSt w a bs i W v m acc) (y : Int) (hm : m ≤ 100000) : Row8 (W.alloc (.cells #[.int .u8 y] 5)) (w.heap.size + 2) v acc ∧ BytesAt (W.alloc (.cells #[.int .u8 y] 5)) (some ⟨W.heap.size, 0, none⟩) [y] ∧
    acc.length + [y].length ≤ 1000000 ∧ w.heap.size + 2 ≤ (W.alloc (.cells #[.int .u8 y] 5)).heap.size := by
  have := h.few
  have := h.tr.size
  exact ⟨h.row.chg (S := fun _ => False) (chg_alloc _ _) (fun _ _ _ h => h), .inr ⟨_, _, rfl, rangeAt_new W [.int .u8 y] _⟩, by simp; omega, by simp; omega⟩
theorem TrAt.kindChg {k : Int} {s : ByteArray} (_ : TrAt w a bs W k s i) (k' : Int) : Chg (fun j => j = w.heap.size + 1) W (W.setCell ⟨w.heap.size + 1, 0, none⟩ (.int .i64 k')) := chg_setCell (S := fun j => j = w.heap.size + 1) rfl _ _ _
theorem Row8.apart8 {B : Nat} {a2 : Option Addr} {n c2 : Nat} (h : Row8 W (B + 2) (.slice a2 n c2) acc) : ∀ g off, a2 = some ⟨g, off, none⟩ → acc ≠ [] → ¬ g = B + 1 := by
  intro g off e _
  subst e
  have := (World.ownsRow.lt h g rfl).1
  omega
end
section
variable {w : World} {a : Option Addr} {c : Nat} {bs : List Int} {i : Nat}
set_option maxRecDepth 100000 in
set_option maxHeartbeats 8000000 in
theorem ref_string (hb : BytesAt w a bs) (ok : TextOk a bs c) (hi : i < bs.length) (hx : bs.getD i 0 = 34) : Calls Try.prog 15 #[.slice a bs.length c, .int .i64 (i : Int)] w (TokRes w i (litP bs (i + 1) [])) := by
  have HTR := Lib.hid (TrAt.start hb i)
  have HB0 := hb.kept (w' := w.alloc (.cells zTok.toArray 38)) ((Below.refl _ _).alloc (Nat.le_refl _) _)
  obtain ⟨g, off, rfl, hc⟩ := HB0.at hi
  have hsm := ok.small
  have HCAP := Lib.hid (And.intro ok.cap hi)
  have hget : bs[i]? = some (bs.getD i 0) := by simp [hi]
  obtain ⟨L, hL⟩ : ∃ L, bs.length = L := ⟨_, rfl⟩
  have HL := Lib.hid hL
  rw [hL] at hsm ⊢
  have hiL : (i : Int) < (L : Int) := by omega
  have HCAST : Hid (((i + 1 : Nat) : Int) = (i : Int) + 1) := Lib.hid (by omega)
  rw [hx] at hc
  have zs := fun w => (zero_of_info zero_token).1 w
  obtain ⟨W0, hW0⟩ : ∃ W0, W0 = w.alloc (.cells zTok.toArray 38) := ⟨_, rfl⟩
  rw [← hW0] at hc HTR
  obtain ⟨W1, hW1⟩ : ∃ W1, W1 = W0.alloc (.cells (tk3 0 { data := #[] } i).toArray 38) := ⟨_, rfl⟩
  rw [← hW1] at HTR
  have hws : W0.heap.size = w.heap.size + 1 := by rw [hW0]; simp
  have HWS := Lib.hid hws
  have HW0 := Lib.hid hW0
  have HW1 := Lib.hid hW1
  have hszZ := tkSize 0 { data := #[] } i
  have hallZ := all_tk 0 { data := #[] } i
  obtain ⟨k0, k1, kf⟩ := HTR.out.cells
  clear hW0 hW1 hb ok HB0 hi hL hget hws
  go_enter Try.func15, Try.ntmps15
  have HS0 := Lib.hid (StrSt.start HTR.out)
  have HK0 : Hid (i + 1 ≤ L) := Lib.hid (by omega)
  clear hx
  go_wp2_with (first | (with_reducible refine wpList_alloc_agg rfl 38 rfl zTok.toArray zs ?_; (try rw [← HW0.out])) | (with_reducible refine wpList_store_new rfl 38 (.tmp 8) (.tmp 17) rfl W0 zTok.toArray (tk3 0 { data := #[] } i).toArray rfl rfl rfl (by simpa using hszZ) rfl hallZ ?_; rw [← HW1.out, HWS.out]))
  go_loopw [9, 10] (fun (u v : Value) (wr : World) => ∃ m acc, i + 1 ≤ m ∧ m ≤ L ∧ u = .int .i64 (m : Int) ∧ Hid (StrSt w (some ⟨g, off, none⟩) bs i wr v m acc)) (fun u _ _ => L - (intOf u).toNat)
  case atStart => exact ⟨i + 1, [], Nat.le_refl _, HK0.out, by first | rfl | go_num, HS0⟩
  case round =>
    obtain ⟨m, acc, hkm, hm, rfl, HK⟩ := hrel
    clear HS0 hc k0 k1 kf
    obtain ⟨k0, k1, kf⟩ := HK.out.tr.cells
    by_cases hml : m < L
    · have hmb : m < bs.length := by rw [HL.out]; exact hml
      obtain ⟨g2, off2, e2, hc2⟩ := (HK.out.tr.text).at hmb
      cases e2
      have hse : Lx.sees plainB bs m = plainB (bs.getD m 0) := sees_at hmb
      have hgetm : bs[m]? = some (bs.getD m 0) := by simp [hmb]
      obtain ⟨y, hy⟩ : ∃ y, bs.getD m 0 = y := ⟨_, rfl⟩
      have HYD := Lib.hid hy
      rw [hy] at hc2 hse hgetm
      have HY := Lib.hid (And.intro hgetm hkm)
      have HT := Lib.hid (plain_any wr y)
      have hneq : ((m : Int) == (L : Int)) = false := by simp; omega
      have hmL : (m : Int) < (L : Int) := by omega
      by_cases hp : plainB y = true
      · rw [hp] at HT
        by_cases h34 : y = 34
        · subst h34
          by_cases hq2 : bs[m + 1]? = some 34
          · have hm1b := at_lt hq2
            obtain ⟨g3, off3, e3, hc3⟩ := (HK.out.tr.text).at hm1b
            cases e3
            have hy3 : bs.getD (m + 1) 0 = 34 := by simp [hq2]
            rw [hy3] at hc3
            have hneq1 : ((m : Int) + 1 == (L : Int)) = false := by have := HL.out; simp; omega
            have hmL1 : (m : Int) + 1 < (L : Int) := by have := HL.out; omega
            have HN := Lib.hid (fun v6 W6 hv6 hg6 => HK.out.more (y := 34) (m' := m + 1 + 1) (v' := v6) (W' := W6) (by omega) (lit_two HY.out.1 hq2) hv6 hg6)
            have HRM := Lib.hid (HK.out.room 34 (by omega))
            have hcm : (m : Int) + 1 + 1 = ((m + 1 + 1 : Nat) : Int) := by omega
            have HCM := Lib.hid hcm
            have HM1 : Hid (m + 1 < L) := Lib.hid (by rw [← HL.out]; exact hm1b)
            clear hse hp hmb hm hgetm hkm hq2 hy hm1b hy3 hcm
            go_wp2_with fail
            refine HT.out.mono ?_
            rintro e w2 ⟨rfl, rfl⟩
            go_wp2_with (refine wpList_app8 rfl (.tmp 135) (.tmp 140) rfl (w.heap.size + 2) _ acc rfl HRM.out.1 (some ⟨wr.heap.size, 0, none⟩) 1 1 [34] rfl rfl HRM.out.2.1 _ rfl HRM.out.2.2.1 HRM.out.2.2.2 ?_; intro v6 w6 hv6 hg6; have H6 := Lib.hid (HN.out v6 w6 hv6 hg6); clear hv6 hg6)
            go_roundw
            case rel => exact ⟨_, _, by have := HY.out.2; omega, by have := HM1.out; omega, by rw [HCM.out], H6⟩
            case measure => simp [intOf]; omega
          · have hr : litP bs (i + 1) [] = .tok 7 acc (m + 1) := by rw [HK.out.says]; exact lit_end HY.out.1 hq2
            have HR := Lib.hid hr
            obtain ⟨a2, c2, hv2, hb2, _⟩ := HK.out.row.value
            subst hv2
            have hb2' := hb2.chg (HK.out.tr.kindChg 7) (HK.out.row.apart8)
            have hcv := run_txt (wr.setCell ⟨w.heap.size + 1, 0, none⟩ (.int .i64 7)) a2 acc c2 hb2'
            have HFN := Lib.hid (((HK.out.tr.kind 7).words (txt acc)).fin)
            clear hse hp hmb hm hgetm hkm hr hb2 hb2' hy
            by_cases hend : m + 1 = L
            · have heq1 : ((m : Int) + 1 == (L : Int)) = true := by simp; omega
              clear hq2
              go_wp2_with fail
              refine HT.out.mono ?_
              rintro e w2 ⟨rfl, rfl⟩
              go_wp2_with (first | (with_reducible refine wpList_load_mid rfl 38 (.tmp 8) rfl (w.heap.size + 1) 0 rfl (tk3 7 (txt acc) i) _ HFN.out.1 Try.underlying38 rfl (tkSize 7 (txt acc) i) ?_) | (with_reducible refine wpList_store_mid rfl 38 (.tmp 4) (.tmp 130) rfl w.heap.size 0 (tk3 7 (txt acc) i).toArray rfl rfl HFN.out.2.1 (by rw [List.size_toArray]; exact tkSize 7 (txt acc) i) (all_tk 7 (txt acc) i) ?_))
              refine bodyPost_ret (v := .tuple #[.agg #[.int .i64 7, .string (txt acc), .int .i64 (i : Int)], .int .i64 ((m : Int) + 1), .int .i64 (-1)]) ?_ rfl (by rw [HR.out]; exact ⟨by first | rfl | (simp; done), HFN.out.2.2.1⟩)
              have := HFN.out.2.2.2
              simp [results, Try.results15, asAddr, Act.put, this]
            · have hm1b : m + 1 < bs.length := by rw [HL.out]; omega
              obtain ⟨g3, off3, e3, hc3⟩ := (HK.out.tr.text).at hm1b
              cases e3
              have hz : (bs.getD (m + 1) 0 != 34) = true := by
                have : bs[m + 1]? = some (bs.getD (m + 1) 0) := by simp [hm1b]
                rw [this] at hq2
                simpa using hq2
              generalize bs.getD (m + 1) 0 = z at *
              have heq1 : ((m : Int) + 1 == (L : Int)) = false := by simp; omega
              have hmL1 : (m : Int) + 1 < (L : Int) := by have := HL.out; omega
              clear hq2 hm1b hend
              go_wp2_with fail
              refine HT.out.mono ?_
              rintro e w2 ⟨rfl, rfl⟩
              go_wp2_with (first | (with_reducible refine wpList_load_mid rfl 38 (.tmp 8) rfl (w.heap.size + 1) 0 rfl (tk3 7 (txt acc) i) _ HFN.out.1 Try.underlying38 rfl (tkSize 7 (txt acc) i) ?_) | (with_reducible refine wpList_store_mid rfl 38 (.tmp 4) (.tmp 130) rfl w.heap.size 0 (tk3 7 (txt acc) i).toArray rfl rfl HFN.out.2.1 (by rw [List.size_toArray]; exact tkSize 7 (txt acc) i) (all_tk 7 (txt acc) i) ?_))
              refine bodyPost_ret (v := .tuple #[.agg #[.int .i64 7, .string (txt acc), .int .i64 (i : Int)], .int .i64 ((m : Int) + 1), .int .i64 (-1)]) ?_ rfl (by rw [HR.out]; exact ⟨by first | rfl | (simp; done), HFN.out.2.2.1⟩)
              have := HFN.out.2.2.2
              simp [results, Try.results15, asAddr, Act.put, this]
        · have hb1 : (y == 34) = false := by simpa using h34
          have HN := Lib.hid (fun v6 W6 hv6 hg6 => HK.out.more (y := y) (m' := m + 1) (v' := v6) (W' := W6) (by omega) (by have h := lit_more (acc := acc) (show Lx.sees plainB bs m = true by rw [hse]; exact hp) (by rw [HY.out.1]; simpa using h34); rw [HYD.out] at h; exact h) hv6 hg6)
          have HRM := Lib.hid (HK.out.room y (by omega))
          clear hse hp hmb hm hgetm hkm hy h34
          go_wp2_with fail
          refine HT.out.mono ?_
          rintro e w2 ⟨rfl, rfl⟩
          go_wp2_with (refine wpList_app8 rfl (.tmp 135) (.tmp 140) rfl (w.heap.size + 2) _ acc rfl HRM.out.1 (some ⟨wr.heap.size, 0, none⟩) 1 1 [y] rfl rfl HRM.out.2.1 _ rfl HRM.out.2.2.1 HRM.out.2.2.2 ?_; intro v6 w6 hv6 hg6; have H6 := Lib.hid (HN.out v6 w6 hv6 hg6); clear hv6 hg6)
          go_roundw
          case rel => exact ⟨m + 1, _, by have := HY.out.2; omega, by omega, by go_num, H6⟩
          case measure => simp [intOf]; omega
      · have hp' : plainB y = false := by simpa using hp
        rw [hp'] at HT
        have hr : litP bs (i + 1) [] = .bad m := by rw [HK.out.says]; exact lit_bad (by rw [hse]; exact hp')
        have HR := Lib.hid hr
        clear hse hp hp' hmb hm hgetm hkm hr hy
        go_wp2_with fail
        refine HT.out.mono ?_
        rintro e w2 ⟨rfl, rfl⟩
        have HFN := Lib.hid HK.out.tr.fin
        go_wp2_with (first | (with_reducible refine wpList_load_mid rfl 38 (.tmp 8) rfl (w.heap.size + 1) 0 rfl (tk3 0 { data := #[] } i) _ HFN.out.1 Try.underlying38 rfl (tkSize 0 { data := #[] } i) ?_) | (with_reducible refine wpList_store_mid rfl 38 (.tmp 4) (.tmp 106) rfl w.heap.size 0 (tk3 0 { data := #[] } i).toArray rfl rfl HFN.out.2.1 (by rw [List.size_toArray]; exact tkSize 0 { data := #[] } i) (all_tk 0 { data := #[] } i) ?_))
        refine bodyPost_ret (v := .tuple #[.agg #[.int .i64 0, .string { data := #[] }, .int .i64 (i : Int)], .int .i64 (0), .int .i64 ((m : Int))]) ?_ rfl (by rw [HR.out]; exact ⟨⟨_, _, _, rfl⟩, HFN.out.2.2.1⟩)
        have := HFN.out.2.2.2
        simp [results, Try.results15, asAddr, Act.put, this]
    · have hmeq : m = L := by omega
      have hr : litP bs (i + 1) [] = .bad m := by rw [HK.out.says]; exact lit_bad (sees_out (by rw [HL.out]; omega))
      have HR := Lib.hid hr
      subst hmeq
      clear hkm hm hr
      have HFN := Lib.hid HK.out.tr.fin
      go_wp2_with (first | (with_reducible refine wpList_load_mid rfl 38 (.tmp 8) rfl (w.heap.size + 1) 0 rfl (tk3 0 { data := #[] } i) _ HFN.out.1 Try.underlying38 rfl (tkSize 0 { data := #[] } i) ?_) | (with_reducible refine wpList_store_mid rfl 38 (.tmp 4) (.tmp 106) rfl w.heap.size 0 (tk3 0 { data := #[] } i).toArray rfl rfl HFN.out.2.1 (by rw [List.size_toArray]; exact tkSize 0 { data := #[] } i) (all_tk 0 { data := #[] } i) ?_))
      refine bodyPost_ret (v := .tuple #[.agg #[.int .i64 0, .string { data := #[] }, .int .i64 (i : Int)], .int .i64 (0), .int .i64 ((m : Int))]) ?_ rfl (by rw [HR.out]; exact ⟨⟨_, _, _, rfl⟩, HFN.out.2.2.1⟩)
      have := HFN.out.2.2.2
      simp [results, Try.results15, asAddr, Act.put, this]
end
end Go.Proofs.Ytfmidhjenapaeaa
