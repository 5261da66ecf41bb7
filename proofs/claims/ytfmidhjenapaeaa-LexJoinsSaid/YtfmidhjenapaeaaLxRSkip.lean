/-
  Layer 7, the document's answer: the place behind blanks.
-/
import Derived.Test.YtfmidhjenapaeaaLxTok
set_option linter.unusedVariables false
set_option linter.unusedSimpArgs false
namespace Go.Proofs.Ytfmidhjenapaeaa
open Go.RowKit Lx

section
variable {w : World} {a : Option Addr} {c : Nat} {bs : List Int} {i : Nat}
theorem BytesAt.at (h : BytesAt w a bs) (hi : i < bs.length) : ∃ g off, a = some ⟨g, off, none⟩ ∧ w.cell? ⟨g, off + i, none⟩ = some (.int .u8 (bs.getD i 0)) := by
  rcases h with e | ⟨g, off, e, ht⟩
  · subst e; simp at hi
  · exact ⟨g, off, e, ht i _ (by simp [bys, b8, hi])⟩
/-- A call that tells a place, and changes nothing. -/
def Place (j : Nat) (w : World) (e : Ending) (w' : World) : Prop := e = .returned (.int .i64 (j : Int)) ∧ w = w'
set_option maxRecDepth 100000 in
set_option maxHeartbeats 4000000 in
theorem Skip_any (hb : BytesAt w a bs) (ok : TextOk a bs c) (hi : i ≤ bs.length) : Calls Try.prog 14 #[.slice a bs.length c, .int .i64 (i : Int)] w (Place (skipP bs i) w) := by
  have HB := Lib.hid hb
  have hs := ok.small
  have HI := Lib.hid hi
  obtain ⟨L, hL⟩ : ∃ L, bs.length = L := ⟨_, rfl⟩
  have HL := Lib.hid hL
  rw [hL] at hs ⊢
  clear hb ok hi hL
  go_enter Try.func14, Try.ntmps14
  go_wp2_with fail
  go_loop [1] (fun (v : Value) => ∃ k : Nat, k ≤ L ∧ v = .int .i64 (k : Int) ∧ Hid (skipP bs k = skipP bs i)) (fun v => L - (intOf v).toNat)
  case atStart => exact ⟨i, by rw [← HL.out]; exact HI.out, rfl, Lib.hid rfl⟩
  case round =>
    obtain ⟨k, hk, rfl, HK⟩ := hrel
    by_cases hlt : k < L
    · have hkb : k < bs.length := by rw [HL.out]; exact hlt
      obtain ⟨g, off, rfl, hc⟩ := HB.out.at hkb
      have hseen : ∀ p, sees p bs k = p (bs.getD k 0) := fun p => sees_at hkb
      have hget : bs[k]? = some (bs.getD k 0) := by simp [hkb]
      have HT := Lib.hid (blank_any w (bs.getD k 0))
      have hk1 : (k : Int) + 1 ≤ 9223372036854775807 := by omega
      by_cases hbl : blankB (bs.getD k 0) = true
      · have hn : Hid (skipP bs (k + 1) = skipP bs i) := Lib.hid (by rw [← skip_blank (by rw [hseen]; exact hbl)]; exact HK.out)
        have hne : (bs.getD k 0 == 59) = false := by
          have : ∀ z : Int, blankB z = true → (z == 59) = false := by
            intro z hz
            simp [blankB] at hz
            simp
            omega
          exact this _ hbl
        rw [hbl] at HT
        have HLT := Lib.hid hlt
        clear hkb hseen hget hbl hk HK
        generalize bs.getD k 0 = x at *
        go_wp2_with fail
        refine HT.out.mono ?_
        rintro e w1 ⟨rfl, rfl⟩
        go_wp2_with fail
        go_roundw
        case rel => exact ⟨k + 1, by have := HLT.out; omega, by go_num, hn⟩
        case measure => simp [intOf]; have := HLT.out; omega
      · have hbl' : blankB (bs.getD k 0) = false := by simpa using hbl
        rw [hbl'] at HT
        by_cases h59 : bs.getD k 0 = 59
        · have hn : Hid (skipP bs (run lineB bs k) = skipP bs i) := Lib.hid (by
            have h1 : sees lineB bs k = true := by rw [hseen, h59]; rfl
            rw [run_yes h1, ← skip_semi (by rw [hget, h59])]
            exact HK.out)
          have hrl : run lineB bs k ≤ L := by rw [← HL.out]; exact run_le (by omega)
          have hrk : k < run lineB bs k := run_gt (by rw [hseen, h59]; rfl)
          have HRL := Lib.hid (And.intro hrl hrk)
          have heq : (bs.getD k 0 == 59) = true := by rw [h59]; rfl
          have HLT := Lib.hid hlt
          clear hkb hseen hget hbl hbl' hk HK hrl hrk h59
          generalize bs.getD k 0 = x at *
          go_wp2_with fail
          refine HT.out.mono ?_
          rintro e w1 ⟨rfl, rfl⟩
          go_wp2_with fail
          go_loop [1] (fun (v : Value) => ∃ m : Nat, k ≤ m ∧ m ≤ L ∧ v = .int .i64 (m : Int) ∧ Hid (run lineB bs m = run lineB bs k)) (fun v => L - (intOf v).toNat)
          case atStart => exact ⟨k, Nat.le_refl _, by have := HLT.out; omega, rfl, Lib.hid rfl⟩
          case round =>
            obtain ⟨m, hkm, hm, rfl, HM⟩ := hrel
            rename w = w => hww
            clear hww
            by_cases hml : m < L
            · have hmb : m < bs.length := by rw [HL.out]; exact hml
              obtain ⟨g2, off2, e2, hc2⟩ := HB.out.at hmb
              cases e2
              have hm1 : (m : Int) + 1 ≤ 9223372036854775807 := by omega
              have hse : sees lineB bs m = lineB (bs.getD m 0) := sees_at hmb
              by_cases h10 : bs.getD m 0 = 10
              · have hst : run lineB bs k = m := by rw [← HM.out]; exact run_no (by rw [hse, h10]; rfl)
                have hne : (bs.getD m 0 != 10) = false := by rw [h10]; rfl
                have hst2 := hn.out
                rw [hst] at hst2
                have HST := Lib.hid hst2
                have HKM : Hid (k < m) := Lib.hid (by have := HRL.out.2; omega)
                clear hst hst2 h10 hse hmb hkm hm hn
                generalize bs.getD m 0 = y at *
                go_wp2_with fail
                go_roundw
                case rel => exact ⟨m, by omega, by go_num, HST⟩
                case measure => simp [intOf]; have := HLT.out; have := HKM.out; omega
              · have hse2 : Hid (run lineB bs (m + 1) = run lineB bs k) := Lib.hid (by rw [← run_yes (by rw [hse]; simpa [lineB] using h10)]; exact HM.out)
                have hne : (bs.getD m 0 != 10) = true := by simpa using h10
                have HML := Lib.hid (And.intro hml hkm)
                clear h10 hse hmb hkm hm
                generalize bs.getD m 0 = y at *
                go_wp2_with fail
                go_roundw
                case rel => exact ⟨m + 1, by have := HML.out.2; omega, by have := HML.out.1; omega, by go_num, hse2⟩
                case measure => simp [intOf]; have := HML.out.1; omega
            · obtain rfl : m = L := by omega
              have hst : run lineB bs k = m := by rw [← HM.out]; exact run_no (sees_out (by rw [HL.out]; exact Nat.le_refl _))
              have hst2 := hn.out
              rw [hst] at hst2
              have HST := Lib.hid hst2
              have HKM : Hid (k < m) := Lib.hid (by have := HRL.out.2; omega)
              clear hst hst2 hkm hm hn
              go_wp2_with fail
              go_roundw
              case rel => exact ⟨m, by omega, by go_num, HST⟩
              case measure => simp [intOf]; have := HKM.out; omega
        · have hend : skipP bs i = k := by
            rw [← HK.out]
            exact skip_stop (by rw [hseen]; exact hbl') (by rw [hget]; simpa using h59)
          have heq : (bs.getD k 0 == 59) = false := by simpa using h59
          have HEND := Lib.hid hend
          clear hkb hseen hget hbl hbl' hk HK h59 hend
          generalize bs.getD k 0 = x at *
          go_wp2_with fail
          refine HT.out.mono ?_
          rintro e w1 ⟨rfl, rfl⟩
          go_wp2_with fail
          go_ret
          rw [HEND.out]
          exact ⟨rfl, rfl⟩
    · obtain rfl : k = L := by omega
      have hend : skipP bs i = k := by
        rw [← HK.out]
        exact skip_stop (sees_out (by rw [HL.out]; exact Nat.le_refl _)) (by rw [List.getElem?_eq_none (by rw [HL.out]; exact Nat.le_refl _)]; simp)
      have HEND := Lib.hid hend
      clear hk HK hend
      go_wp2_with fail
      go_ret
      rw [HEND.out]
      exact ⟨rfl, rfl⟩
end
end Go.Proofs.Ytfmidhjenapaeaa
