/-
  Layer 17: QueueActs' walk.
-/
import Derived.Test.YtkepengljbeipaaQuSwitch
import Derived.Deep.CutBlock
set_option linter.unusedVariables false
set_option linter.unusedSimpArgs false
namespace Go.Proofs.Ytkepengljbeipaa
open Go.RowKit Qu

set_option maxRecDepth 100000 in
set_option maxHeartbeats 4000000 in
theorem acts_walk (w : World) (N : Int) (a : Option Addr) (c : Nat) (az : List (Int × Int × Int)) (hn : ActsIn w a az) (hN : N ≤ 9223372036854775807) (hw : ∀ (k : Nat) (x : Int × Int × Int), az[k]? = some x → -9223372036854775808 ≤ x.2.1 ∧ x.2.1 ≤ 9223372036854775807 ∧ -9223372036854775808 ≤ x.2.2 ∧ x.2.2 ≤ 9223372036854775807) (hc : az.length ≤ maxLen) :
    Calls Try.prog 3 #[.int .i64 N, .slice a az.length c] w (GivesV (.bool true) w) := by
  unfold maxLen at hc
  obtain ⟨m, hml⟩ : ∃ m, m = az.length := ⟨_, rfl⟩
  have HS := Lib.hid (speaks_any w)
  have HAS := Lib.hid hn
  have HW := Lib.hid hw
  have HL := Lib.hid hml
  rw [← hml] at hc ⊢
  clear hn hw hml
  go_enter Try.func3, Try.ntmps3
  go_wp2_with fail
  refine HS.out.mono ?_
  rintro e w1 ⟨rfl, hb⟩
  have HB1 := Lib.hid hb
  clear hb HS
  by_cases hbig : 60 < N
  · have hbi : (60 : Int) < N := by omega
    go_wp2_with fail
    go_ret
    exact GivesV.mk' rfl HB1.out
  · by_cases hlong : 200 < m
    · have hlo : (200 : Int) < (m : Int) := by omega
      have hbi : ¬ (60 : Int) < N := by omega
      go_wp2_with fail
      go_ret
      exact GivesV.mk' rfl HB1.out
    · have hlo : ¬ (200 : Int) < (m : Int) := by omega
      have hbi : ¬ (60 : Int) < N := by omega
      obtain ⟨n, hnN⟩ : ∃ n : Nat, max N 0 = (n : Int) := ⟨(max N 0).toNat, by omega⟩
      have hn60 : n ≤ 60 := by omega
      have HN := Lib.hid (New_any w1 N n hn60 hnN)
      have HNN := Lib.hid hnN
      clear hnN
      go_wp2_with fail
      refine HN.out.mono ?_
      rintro e w2 ⟨s, h, rfl, hb, hr, hs, hh⟩
      have hs1 := HB1.out.size
      have HR2 := Lib.hid (And.intro (HB1.out.trans (hb.mono hs1)) (And.intro hr (And.intro (show w.heap.size ≤ s by omega) (show w.heap.size ≤ h by omega))))
      have HRN := Lib.hid (RNew_any w2 N n hn60 HNN.out)
      unfold qV
      clear hb hr hs hh HN hs1
      go_wp2_with fail
      refine HRN.out.mono ?_
      rintro e w3 ⟨r, t, g, rfl, hb, hrq, hr, ht, hg⟩
      obtain ⟨hB2, hrw, hs, hh⟩ := HR2.out
      have hz2 := hB2.size
      have hz3 := hb.size
      have hB3 := hB2.trans (hb.mono hz2)
      have st := St.start (w0 := w) hB3 (hrw.kept hb) hs hh hn60
      have hsl := hrw.score.lt
      have hhl := hrw.heap.lt
      have HBO : Hid (Both w w3.heap.size s h n r t g (List.replicate n 0) (List.replicate n true) (w3.alloc (.cells #[.slice (some ⟨s, 0, none⟩) n n, .slice (some ⟨h, 0, none⟩) n n] 26))) := Lib.hid (by
        have hl := hrq.lts
        refine ⟨_, _, st, hrq.kept ((Below.refl _ _).alloc (Nat.le_refl _) _), fun v hv => ?_, fun j hj hf => ?_, fun j hj => by rcases hj with rfl | rfl | rfl <;> omega⟩
        · rw [List.length_replicate] at hv
          have e1 : elb (List.replicate n true) v = true := by simp [elb, List.getD_eq_getElem?_getD, hv]
          rw [e1, mem_ids]
          simp
          omega
        · rcases hj with rfl | rfl | rfl <;> rcases hf with rfl | rfl | rfl <;> omega)
      obtain ⟨b, hbb⟩ : ∃ b, w3.heap.size = b := ⟨_, rfl⟩
      rw [hbb] at HBO
      clear hb hrq hr ht hg hB2 hrw hs hh hz2 hz3 hB3 st hsl hhl HRN HR2
      go_wp2_with fail
      clear hbb
      go_loopw [31] (fun iv wr => ∃ (k : Nat) (sc : List Int) (ins : List Bool), k ≤ m ∧ iv = .int .i64 k ∧ Both w b s h n r t g sc ins wr) (fun iv _ => m - (intOf iv).toNat)
      case atStart => exact ⟨0, _, _, Nat.zero_le _, rfl, HBO.out⟩
      case round =>
        clear HBO
        obtain ⟨k, sc, ins, hk, rfl, HK⟩ := hrel
        have HHK := Lib.hid HK
        by_cases hkm : k < m
        · obtain ⟨x, hx⟩ : ∃ x, az[k]? = some x := ⟨az[k]'(by rw [← HL.out]; exact hkm), List.getElem?_eq_getElem _⟩
          obtain ⟨q1, q2, q3, q4⟩ := HW.out k x hx
          obtain ⟨G, off, ha, hG, hcell⟩ : ∃ g off, a = some ⟨g, off, none⟩ ∧ g < w.heap.size ∧ ∀ (k : Nat) (x : Int × Int × Int), az[k]? = some x →
              w.cell? ⟨g, off + k * 3, none⟩ = some (.int .i64 x.1) ∧ w.cell? ⟨g, off + k * 3 + 1, none⟩ = some (.int .i64 x.2.1) ∧ w.cell? ⟨g, off + k * 3 + 2, none⟩ = some (.int .i64 x.2.2) := by
            rcases HAS.out with e | e
            · rw [e] at hx; simp at hx
            · exact e
          subst ha
          have hB := HK.below
          obtain ⟨e0, e1, e2⟩ := hcell k x hx
          have d0 := (hB.cell (p := ⟨G, off + k * 3, none⟩) hG).trans e0
          have d1 := (hB.cell (p := ⟨G, off + k * 3 + 1, none⟩) hG).trans e1
          have d2 := (hB.cell (p := ⟨G, off + k * 3 + 2, none⟩) hG).trans e2
          have HM := Lib.hid (Mid.start HK x)
          obtain ⟨rc0, rc1⟩ := (HK.kept ((Below.refl _ _).alloc (Nat.le_refl _) (.cells #[.int .i64 x.1, .int .i64 x.2.1, .int .i64 x.2.2] 31))).rq.cells
          have a1 := (act_cells (Mid.start HK x).blk).2.1
          obtain ⟨what, V, y⟩ := x
          dsimp only at *
          obtain ⟨A, hA⟩ : ∃ A, wr.heap.size = A := ⟨_, rfl⟩
          rw [hA] at HM a1
          obtain ⟨W1, hW1⟩ : ∃ W1, W1 = wr.alloc (.cells #[.int .i64 what, .int .i64 V, .int .i64 y] 31) := ⟨_, rfl⟩
          rw [← hW1] at HM rc0 rc1 a1
          have HW1 := Lib.hid hW1
          clear hcell HK e0 e1 e2 hB hx hW1
          go_wp2_with fail
          rw [← HW1.out]
          clear d0 d1 d2 hA
          go_upto_region 9 with fail
          go_cut [9] (fun s9 wx => ∃ th : Bool, s9 = .bool th ∧ Hid (th = (decide (0 ≤ V) && decide (V < (n : Int)))) ∧ Mid w b s h n r t g sc ins A (what, V, y) wx)
          case first =>
            cases h1 : decide (0 ≤ V) with
            | false =>
              go_quiet (fail)
              go_wp2_with fail
              go_meet
              exact ⟨_, rfl, Lib.hid (by simp [h1]), HM.out.kept (below_drewN (Below.refl _ _) _)⟩
            | true =>
              cases h2 : decide (V < (n : Int)) with
              | false =>
                go_quiet (fail)
                go_wp2_with fail
                go_meet
                exact ⟨_, rfl, Lib.hid (by simp [h1, h2]), HM.out.kept (below_drewN (Below.refl _ _) _)⟩
              | true =>
                go_quiet (fail)
                go_wp2_with fail
                go_meet
                exact ⟨_, rfl, Lib.hid (by simp [h1, h2]), HM.out.kept (below_drewN (Below.refl _ _) _)⟩
          case rest =>
            obtain ⟨th, rfl, HTH, HMx⟩ := hcut
            have HM2 := Lib.hid HMx
            clear HM HMx rc0 rc1 a1
            obtain ⟨a0, a1, a2⟩ := act_cells HM2.out.blk
            dsimp only at a0 a1 a2
            go_upto_block 2 with fail
            refine act_any HM2 HTH hn60 q1 q2 q3 q4 (Lib.hid (fun u4 u10 u11 u12 u13 u50 u51 u52 u53 u54 u55 u56 u57 u58 u59 u60 u61 u62 u63 u64 u65 u66 u67 u68 u69 u70 u71 u72 u73 u74 u75 u76 u77 u78 u79 u80 u81 u82 u83 u84 u85 u86 u87 u88 u89 u90 u91 u92 u93 u94 u95 u96 u97 u98 u99 u100 u101 u102 u103 u104 u105 u106 u107 u108 u109 u110 u111 u112 u113 u114 u115 u116 u117 u118 u119 u120 u121 u122 u123 u124 u125 u126 u127 u128 u129 u130 u131 u132 u133 sc' ins' wc hBo => ?_))
            obtain ⟨len, hLk⟩ := hBo.looks
            have hrq := hBo.rq
            have HBK := Lib.hid (fun W (z : Below wc.heap.size wc W) => hBo.kept z)
            have HD : Hid (∀ w', Below wc.heap.size wc w' → w'.cell? ⟨b, 0, none⟩ = some (.slice (some ⟨s, 0, none⟩) n n) ∧ w'.cell? ⟨b, 1, none⟩ = some (.slice (some ⟨h, 0, none⟩) len n) ∧ w'.cell? ⟨r, 0, none⟩ = some (.slice (some ⟨t, 0, none⟩) n n) ∧ w'.cell? ⟨r, 1, none⟩ = some (.slice (some ⟨g, 0, none⟩) n n)) := Lib.hid (fun W z => by
              obtain ⟨x1, x2, _⟩ := (show Head W b s h n len from (z.block _ hLk.head.lt).trans hLk.head).cells
              obtain ⟨x3, x4⟩ := (hrq.kept z).cells
              exact ⟨x1, x2, x3, x4⟩)
            have HF := Lib.hid (fun W (z : Below wc.heap.size wc W) j (hj : j < n) => (hrq.kept z).flags.cell (k := j) (by rw [hrq.li]; exact hj))
            have HSC := Lib.hid (fun W (z : Below wc.heap.size wc W) j (hj : j < n) => And.intro ((z.cell (p := ⟨s, j, none⟩) hBo.lts.2.1).trans (hLk.scores j hj)) ((hrq.kept z).score.cell (k := j) (by rw [hrq.ls]; exact hj)))
            have HR1 := Lib.hid hLk.right
            have HR2 := Lib.hid hLk.rright
            have HH1 := Lib.hid hLk.has
            have HH2 := Lib.hid hLk.hasNot
            unfold qV at *
            obtain ⟨x1, x2, x3, x4⟩ := HD.out wc (Below.refl _ _)
            clear hBo hLk hrq a0 a1 a2 HM2
            go_wp2_with fail
            go_region_held3 (fun w' => w'.cell? ⟨b, 0, none⟩ = some (.slice (some ⟨s, 0, none⟩) n n) ∧ w'.cell? ⟨b, 1, none⟩ = some (.slice (some ⟨h, 0, none⟩) len n) ∧ w'.cell? ⟨r, 0, none⟩ = some (.slice (some ⟨t, 0, none⟩) n n) ∧ w'.cell? ⟨r, 1, none⟩ = some (.slice (some ⟨g, 0, none⟩) n n)) (first | with_reducible exact k4 | with_reducible exact k5 | go_keep)
              (first
                | (go_at_call 14; (with_reducible refine (HR1.out _ (Below.refl _ _).drew).mono ?_); rintro e w4 ⟨rfl, hb4'⟩; have hb4 : Below wc.heap.size wc w4 := ((Below.refl _ _).drew).trans hb4'; have k4 := HD.out _ hb4)
                | (go_at_call 15; (with_reducible refine (HR2.out _ hb4).mono ?_); rintro e w5 ⟨rfl, hb5'⟩; have hb5 := hb4.trans (hb5'.mono hb4.size); have k5 := HD.out _ hb5; have HB5 := Lib.hid hb5))
            clear HR1 HR2 x1 x2 x3 x4
            obtain ⟨x1, x2, x3, x4⟩ := HD.out _ HB5.out
            go_wp2_with fail
            clear x1 x2 x3 x4
            go_loopw [158] (fun jv wq => ∃ j : Nat, j ≤ n ∧ jv = .int .i64 j ∧ Hid (Below wc.heap.size wc wq)) (fun jv _ => n - (intOf jv).toNat)
            case atStart => exact ⟨0, Nat.zero_le _, rfl, HB5⟩
            case round =>
              clear HB5
              obtain ⟨j, hj, rfl, HB⟩ := hrel
              obtain ⟨x1, x2, x3, x4⟩ := HD.out _ HB.out
              by_cases hjn : j < n
              · have hfl := HF.out _ HB.out j hjn
                obtain ⟨y1, y2⟩ := HSC.out _ HB.out j hjn
                have HS2 := Lib.hid (fun W (z : Below wc.heap.size wc W) => HSC.out W z j hjn)
                have HHas := Lib.hid (HH1.out j hjn)
                have hjn2 : (j : Int) < (n : Int) := by omega
                generalize el sc' j = X at *
                generalize elb ins' j = fl at *
                cases fl
                all_goals
                  go_wp2_with fail
                  go_region_held3 (fun w' => w'.cell? ⟨b, 0, none⟩ = some (.slice (some ⟨s, 0, none⟩) n n) ∧ w'.cell? ⟨b, 1, none⟩ = some (.slice (some ⟨h, 0, none⟩) len n) ∧ w'.cell? ⟨r, 0, none⟩ = some (.slice (some ⟨t, 0, none⟩) n n) ∧ w'.cell? ⟨r, 1, none⟩ = some (.slice (some ⟨g, 0, none⟩) n n) ∧ w'.cell? ⟨s, j, none⟩ = some (.int .i64 X) ∧ w'.cell? ⟨t, j, none⟩ = some (.int .i64 X)) (first | with_reducible exact k4 | go_keep)
                    (first
                      | (go_at_call 16; (with_reducible refine (HHas.out _ HB.out.drew).mono ?_); rintro e w4 ⟨rfl, hb4'⟩; have hb4 := HB.out.drew.trans (hb4'.mono HB.out.drew.size); obtain ⟨z1, z2, z3, z4⟩ := HD.out _ hb4; obtain ⟨z5, z6⟩ := HS2.out _ hb4; have k4 := And.intro z1 (And.intro z2 (And.intro z3 (And.intro z4 (And.intro z5 z6)))); have HB4 := Lib.hid hb4))
                  go_wp2_with fail
                  go_roundw
                  case rel => exact ⟨j + 1, by omega, by go_num, HB4⟩
                  case measure => simp [intOf]; omega
              · have HN1 := Lib.hid (HH2.out (-1) (.inl (by omega)))
                have HN2 := Lib.hid (HH2.out (n : Int) (.inr (by omega)))
                go_wp2_with fail
                go_region_held3 (fun w' => w'.cell? ⟨b, 0, none⟩ = some (.slice (some ⟨s, 0, none⟩) n n) ∧ w'.cell? ⟨b, 1, none⟩ = some (.slice (some ⟨h, 0, none⟩) len n) ∧ w'.cell? ⟨r, 0, none⟩ = some (.slice (some ⟨t, 0, none⟩) n n) ∧ w'.cell? ⟨r, 1, none⟩ = some (.slice (some ⟨g, 0, none⟩) n n)) (first | with_reducible exact k4 | with_reducible exact k5 | go_keep)
                  (first
                    | (go_at_call 16; (with_reducible refine (HN1.out _ HB.out.drew).mono ?_); rintro e w4 ⟨rfl, hb4'⟩; have hb4 := HB.out.drew.trans (hb4'.mono HB.out.drew.size); have k4 := HD.out _ hb4)
                    | (go_at_call 16; (with_reducible refine (HN2.out _ hb4).mono ?_); rintro e w5 ⟨rfl, hb5'⟩; have hb5 := hb4.trans (hb5'.mono hb4.size); have k5 := HD.out _ hb5; have HB5 := Lib.hid hb5))
                go_wp2_with fail
                go_roundw
                case rel => exact ⟨k + 1, sc', ins', by omega, by go_num, HBK.out _ HB5.out⟩
                case measure => simp [intOf]; omega
        · clear HK
          go_wp2_with fail
          go_ret
          exact GivesV.mk' rfl HHK.out.below
end Go.Proofs.Ytkepengljbeipaa
