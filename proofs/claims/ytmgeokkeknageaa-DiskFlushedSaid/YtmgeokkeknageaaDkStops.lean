/-
  DiskStops: when the power goes just what was done ahead of it stands: the walk.
-/
import Derived.Test.YtmgeokkeknageaaDkPair
set_option linter.unusedVariables false
set_option linter.unusedSimpArgs false
namespace Go.Proofs.Ytmgeokkeknageaa
open Go.RowKit

theorem below_drewN (w : World) (j : Nat) : Below w.heap.size w (w.drewN j) := ⟨rfl, rfl, rfl, Nat.le_refl _, fun _ _ => rfl⟩
def StopAt (w0 : World) (d s l x t m q k : Nat) (wr : World) : Prop := ∃ v u A B, Two w0 wr 20 d s l v A x t m u B ∧ Rel A B q k
theorem info_call : (Try.prog.info? 31).map (·.size) = some 68 := by kernel_rfl
theorem size_64 : (Try.prog.info? 29).map (·.size) = some 64 := by kernel_rfl
theorem zero_call : (Try.prog.info? 31).map (fun i => (i.zero, i.size)) = some (some (.agg (HC.cells ⟨0, 0, 0, List.replicate 64 0, .slice none 0 0⟩).toArray), 68) := by kernel_rfl
theorem HC.at3 {c : HC} {w : World} {b : Nat} (h : w.rangeAt b 0 c.cells) : w.cell? ⟨b, 0, none⟩ = some (.int .i64 c.what) ∧ w.cell? ⟨b, 1, none⟩ = some (.int .i64 c.at') ∧ w.rangeAt b 3 (bys c.sec) := by
  refine ⟨by simpa using h 0 _ rfl, by simpa using h 1 _ rfl, fun j y hy => ?_⟩
  have hj : j < (bys c.sec).length := (List.getElem?_eq_some_iff.1 hy).1
  have := h (3 + j) y (by
    rw [HC.cells, show 3 + j = j + 1 + 1 + 1 by omega]
    simp only [List.getElem?_cons_succ]
    rw [List.getElem?_append_left hj]
    exact hy)
  rw [Nat.zero_add] at this
  exact this

set_option maxRecDepth 100000 in
set_option maxHeartbeats 8000000 in
theorem stops_walk (w0 : World) (a : Option Addr) (c : Nat) (cs : List HC) (ops : Int) (hcs : CallsIn' w0 a cs) : Calls Try.prog 4 #[.slice a cs.length c, .int .i64 ops] w0 (Says w0) := by
  have HSP := Lib.hid (speaks05 w0)
  have HCS := Lib.hid hcs
  obtain ⟨q, hq31, hq⟩ := and31 ops
  generalize hL : cs.length = L at *
  have HL := Lib.hid hL
  clear hL hcs
  by_cases hbig : 60 < L
  · have hbig' : decide ((60 : Int) < (L : Int)) = true := by simp; omega
    clear hq hq31 hbig
    go_enter Try.func4, Try.ntmps4
    go_wp2_with fail
    refine HSP.out.mono ?_
    rintro e w1 ⟨rfl, hb1⟩
    have HB1 := Lib.hid hb1
    clear HSP hb1
    go_wp2_with fail
    go_ret
    exact ⟨rfl, HB1.out⟩
  · have hsm : L ≤ 60 := by omega
    have hsm' : decide ((60 : Int) < (L : Int)) = false := by simp; omega
    have hL0 : (L : Int) ≤ 60 := by omega
    clear hbig
    go_enter Try.func4, Try.ntmps4
    go_wp2_with fail
    refine HSP.out.mono ?_
    rintro e w1 ⟨rfl, hb1⟩
    have HB1 := Lib.hid hb1
    have HN := Lib.hid (New_any w1 20 (by omega) (by omega))
    clear HSP hb1
    go_wp2_with fail
    refine HN.out.mono ?_
    rintro e w2 ⟨d, s, l, rfl, h2, ld, ls, ll, hb2⟩
    have HN2 := Lib.hid (New_any w2 20 (by omega) (by omega))
    have H2 := Lib.hid h2
    have HB2 := Lib.hid hb2
    have HLE := Lib.hid (And.intro ld (And.intro ls ll))
    clear HN h2 ld ls ll hb2
    go_wp2_with fail
    refine HN2.out.mono ?_
    rintro e w3 ⟨x, t, m, rfl, h3, lx, lt, lm, hb3⟩
    have HT3 : Hid (Two w0 w3 20 d s l (.slice none 0 0) (Dk.DV.new 20) x t m (.slice none 0 0) (Dk.DV.new 20)) := Lib.hid (by
      have hlt := H2.out.lt
      have q1 := HLE.out
      have q2 := HB1.out.size
      have q3 := HB2.out.size
      have f1 : ∀ j, Foot d s l (.slice none 0 0) j → w1.heap.size ≤ j ∧ j < w2.heap.size := fun j hj => by
        have hj2 := hlt j hj
        rcases hj with rfl | rfl | rfl | hj
        · exact ⟨q1.1, hj2⟩
        · exact ⟨q1.2.1, hj2⟩
        · exact ⟨q1.2.2, hj2⟩
        · cases hj
      have f2 : ∀ j, Foot x t m (.slice none 0 0) j → w2.heap.size ≤ j := fun j hj => by
        rcases hj with rfl | rfl | rfl | hj
        · exact lx
        · exact lt
        · exact lm
        · cases hj
      exact ⟨H2.out.kept hb3, h3, fun j h1 h2 => by have := f1 j h1; have := f2 j h2; omega, fun j hj => by have := f1 j hj; omega, fun j hj => by have := f2 j hj; omega, (HB1.out.trans (HB2.out.mono q2)).trans (hb3.mono (Nat.le_trans q2 q3))⟩)
    have HST := Lib.hid (Stop_any HT3.out.one q)
    clear HN2 h3 lx lt lm hb3 H2 HB1 HB2 HLE
    go_wp2_with fail
    refine HST.out.mono ?_
    intro e w4 hd4
    obtain ⟨v4, hT4, _⟩ := HT3.out.did hd4
    obtain ⟨rfl, _⟩ := hd4
    have H0 : Hid (StopAt w0 d s l x t m q 0 w4) := Lib.hid ⟨_, _, _, _, hT4, ⟨⟨rfl, rfl, rfl, rfl⟩, rfl, rfl, Nat.le_refl _, Nat.le_refl _⟩⟩
    clear HST HT3 hT4
    go_wp2_with fail
    go_loopw [46] (fun (iv : Value) (wr : World) => ∃ k : Nat, k ≤ L ∧ iv = .int .i64 k ∧ Hid (StopAt w0 d s l x t m q k wr)) (fun iv _ => L - (intOf iv).toNat)
    case atStart => exact ⟨0, Nat.zero_le _, rfl, H0⟩
    case round =>
      obtain ⟨k, hk, rfl, HK⟩ := hrel
      clear H0
      by_cases hlt : k < L
      · obtain ⟨v, u, A, B, hT, hRl⟩ := HK.out
        obtain ⟨g, off, rfl, hcl⟩ : ∃ g off, a = some ⟨g, off, none⟩ ∧ wr.rangeAt g (off + k * 68) (cs.getD k ⟨0, 0, 0, [], undef⟩).cells := by
          rcases (HCS.out.kept hT.below).cells with e | ⟨g, off, e, h⟩
          · rw [e] at HL; have := HL.out; simp at this; omega
          · exact ⟨g, off, e, h k (by rw [HL.out]; exact hlt)⟩
        have hsc := HCS.out.sec (cs.getD k ⟨0, 0, 0, [], undef⟩) (by rw [List.getD_eq_getElem?_getD, List.getElem?_eq_getElem (by rw [HL.out]; exact hlt)]; simp)
        generalize cs.getD k ⟨0, 0, 0, [], undef⟩ = cc at *
        obtain ⟨wh, at', nm, S, kp⟩ := cc
        obtain ⟨hS, hkp⟩ := hsc
        dsimp only at hS hkp
        have hcn := HC.cells_len ⟨wh, at', nm, S, kp⟩ hS
        have hc1 := HC.cells_one ⟨wh, at', nm, S, kp⟩ hkp
        obtain ⟨C, hC⟩ : ∃ C, (HC.cells ⟨wh, at', nm, S, kp⟩) = C := ⟨_, rfl⟩
        rw [hC] at hcl hcn hc1
        have hcz : (Try.prog.info? 31).map (·.size) = some C.length := by rw [hcn]; exact info_call
        have zc := fun w => (zero_of_info zero_call).1 w
        obtain ⟨Z, hZ⟩ : ∃ Z, (HC.cells ⟨0, 0, 0, List.replicate 64 0, .slice none 0 0⟩) = Z := ⟨_, rfl⟩
        rw [hZ] at zc
        have HZL : Hid (Z.length = 68) := Lib.hid (by rw [← hZ]; rfl)
        have HC1 := Lib.hid hc1
        have HCN := Lib.hid hcn
        have HBW := hT.kept (show Below wr.heap.size wr (wr.alloc (.cells C.toArray 31)) from (Below.refl _ _).alloc (Nat.le_refl _) _)
        have hrg : (wr.alloc (.cells C.toArray 31)).rangeAt wr.heap.size 0 C := fun j y hy => by
          rw [Nat.zero_add, cell_of_row _ _ j _ _ _ (heap_alloc_last wr _)]
          simpa using hy
        have hnf1 : ¬ Foot d s l v wr.heap.size := fun e => by have := hT.one.lt _ e; omega
        have hnf2 : ¬ Foot x t m u wr.heap.size := fun e => by have := hT.two.lt _ e; omega
        have hs64 : (Try.prog.info? 29).map (·.size) = some (bys S).length := by rw [bys_len, hS]; exact size_64
        obtain ⟨W1, hW1⟩ : ∃ W1, W1 = wr.alloc (.cells C.toArray 31) := ⟨_, rfl⟩
        rw [← hW1] at HBW hrg
        have hWz : wr.heap.size < W1.heap.size := by rw [hW1]; simp
        have HWZ := Lib.hid hWz
        have hrg' := hrg
        rw [← hC] at hrg'
        obtain ⟨b0, b1, b3⟩ := HC.at3 hrg'
        dsimp only at b0 b1 b3
        have b3' := b3
        rw [hW1] at b3'
        have k0 : C[0]? = some (.int .i64 wh) := by rw [← hC]; rfl
        have k1 : C[1]? = some (.int .i64 at') := by rw [← hC]; rfl
        have HT := Lib.hid HBW
        have HRR := Lib.hid hRl
        have HRG := Lib.hid hrg
        have HNF := Lib.hid (And.intro hnf1 hnf2)
        have HW1 := Lib.hid hW1
        have HCC := Lib.hid hC
        have HSS := Lib.hid hS
        have hk1 : k + 1 ≤ 61 := by omega
        have hlt' := Lib.hid hlt
        clear hT hRl hC hZ HBW hrg hrg' hnf1 hnf2 hc1 hcn hW1 hWz hS hkp HK
        by_cases h0 : wh = 0
        · have h0' : ((wh : Int) == 0) = true := by simpa using h0
          have HW := Lib.hid (Write_any HT.out.one at' HSS.out (by have := HRR.out.wait; omega) (by have := HRR.out.ops; omega))
          clear h0
          go_wp2_with (first | (with_reducible refine wpList_load_mid rfl 31 (.tmp 48) rfl g (off + k * 68) rfl C _ hcl Try.underlying31 rfl hcz ?_) | (with_reducible refine wpList_alloc_agg rfl 31 rfl Z.toArray zc ?_) | (with_reducible refine wpList_load_mid rfl 29 (.tmp 56) rfl wr.heap.size 3 rfl (bys S) _ b3' Try.underlying29 rfl hs64 ?_) | (with_reducible refine wpList_store_new rfl 31 (.tmp 11) (.tmp 49) rfl wr Z.toArray C.toArray rfl rfl rfl (by rw [hcz]; simp) (by rw [List.size_toArray, List.size_toArray, HZL.out, HCN.out]) (all_oneCell_toArray HC1.out) ?_))
          rw [← HW1.out]
          refine HW.out.mono ?_
          rintro e w2 ⟨r2, rfl, _, hd2⟩
          obtain ⟨v2, hT2, hf2⟩ := HT.out.did hd2
          have hr2 := hd2.range HRG.out HWZ.out HNF.out.1
          have hr2' := hr2
          rw [← HCC.out] at hr2'
          obtain ⟨z0, z1, z3⟩ := HC.at3 hr2'
          dsimp only at z0 z1 z3
          have HT2 := Lib.hid hT2
          have HO : Hid (Calls Try.prog 13 #[.pointer (some ⟨x, 0, none⟩)] w2 fun e w' => e = .returned (.int .i64 (A.ops : Int)) ∧ w2 = w') := Lib.hid (by rw [HRR.out.like.2.2.2]; exact Ops_any hT2.two)
          clear hd2 hT2 hf2 hr2 hr2' HW b0 b1 b3
          by_cases hq1 : A.ops < q
          · have HRL := Lib.hid (HRR.out.put (n := 20) (by omega) at' S hq1)
            have HWX := Lib.hid (Write_any HT2.out.two at' HSS.out (by have := HRR.out.wait; have := HRR.out.like.2.2.1; rw [← this]; omega) (by have := HRR.out.ops; have := HRR.out.like.2.2.2; omega))
            have hq2 : decide (A.ops < q) = true := by simpa using hq1
            clear hq1
            generalize A.ops = o1 at *
            go_wp2_with fail
            refine HO.out.mono ?_
            rintro e w' ⟨rfl, rfl⟩
            clear HO
            go_wp2_with (with_reducible refine wpList_load_mid rfl 29 (.tmp 66) rfl wr.heap.size 3 rfl (bys S) _ z3 Try.underlying29 rfl hs64 ?_)
            refine HWX.out.mono ?_
            rintro e w3 ⟨r3, rfl, _, hd3⟩
            obtain ⟨u3, hT3, _⟩ := HT2.out.swap.did hd3
            have HT3 := Lib.hid hT3.swap
            clear hd3 hT3 HWX hq2 HT2 z0 z1 z3
            obtain ⟨b, hb⟩ : ∃ b, decide ((q : Int) ≤ (((A.puts 20 at' S)).ops : Int)) = b := ⟨_, rfl⟩
            obtain ⟨o, ho⟩ : ∃ o, ((A.puts 20 at' S)).ops = o := ⟨_, rfl⟩
            have HD : Hid (Calls Try.prog 14 #[.pointer (some ⟨d, 0, none⟩)] w3 (GivesDrew b w3)) := Lib.hid (by rw [← hb, ← HRL.out.dead]; exact Dead_any HT3.out.one)
            have HO1 : Hid (∀ j, Calls Try.prog 13 #[.pointer (some ⟨d, 0, none⟩)] ((w3).drewN j) fun e w' => e = .returned (.int .i64 (o : Int)) ∧ (w3).drewN j = w') := Lib.hid fun j => by rw [← ho]; exact Ops_any (HT3.out.kept (below_drewN _ j)).one
            have HO2 : Hid (∀ j, Calls Try.prog 13 #[.pointer (some ⟨x, 0, none⟩)] ((w3).drewN j) fun e w' => e = .returned (.int .i64 (o : Int)) ∧ (w3).drewN j = w') := Lib.hid fun j => by rw [← ho, HRL.out.like.2.2.2]; exact Ops_any (HT3.out.kept (below_drewN _ j)).two
            have HS1 : Hid (∀ j, Calls Try.prog 9 #[.pointer (some ⟨d, 0, none⟩)] ((w3).drewN j) (Copied ((A.puts 20 at' S)).seen 20 ((w3).drewN j))) := Lib.hid fun j => Sectors_any (HT3.out.kept (below_drewN _ j)).one (by omega)
            have hb1 : decide ((q : Int) ≤ (o : Int)) = b := by rw [← ho]; exact hb
            have hb2 : decide (q ≤ o) = b := by rw [← hb1]; simp
            have HLN : Hid (((A.puts 20 at' S)).seen.length = 64 * 20) := Lib.hid HT3.out.one.fits.seen
            clear hb ho
            go_wp2_with fail
            refine HD.out.mono ?_
            rintro e w' ⟨rfl, j1, rfl⟩
            go_wp2_with fail
            refine (HO1.out j1).mono ?_
            rintro e w' ⟨rfl, rfl⟩
            go_wp2_with fail
            refine (HO1.out j1).mono ?_
            rintro e w' ⟨rfl, rfl⟩
            go_wp2_with fail
            refine (HO2.out j1).mono ?_
            rintro e w' ⟨rfl, rfl⟩
            go_wp2_with fail
            refine (HS1.out j1).mono ?_
            rintro e w5 ⟨g1, e1, rfl, hr1, hg1, hl1, hb5⟩
            have HT5 := Lib.hid ((HT3.out.kept (below_drewN _ j1)).kept hb5)
            have HS2 : Hid (Calls Try.prog 9 #[.pointer (some ⟨x, 0, none⟩)] w5 (Copied ((A.puts 20 at' S)).seen 20 w5)) := Lib.hid (by rw [HRL.out.like.1]; exact Sectors_any HT5.out.two (by omega))
            have HR1 := Lib.hid hr1
            have HL1 := Lib.hid hl1
            clear hr1 hg1 hl1 hb5 HS1 HD HO1 HO2
            go_wp2_with fail
            refine HS2.out.mono ?_
            rintro e w6 ⟨g2, e2, rfl, hr2, hg2, hl2, hb6⟩
            have HT6 := Lib.hid (HT5.out.kept hb6)
            have HSM := Lib.hid (Same_yes (w := w6) (n := 20) g1 g2 e1 e2 ((A.puts 20 at' S)).seen HLN.out (by omega) (fun j y hy => (hb6.cell (p := ⟨g1, 0 + j, none⟩) HL1.out).trans (HR1.out j y hy)) hr2)
            clear hr2 hg2 hl2 hb6 HS2 HR1 HL1 HT5
            go_wp2_with fail
            refine HSM.out.mono ?_
            rintro e w7 ⟨rfl, j2, rfl⟩
            have HT7 := Lib.hid (HT6.out.kept (below_drewN _ j2))
            clear HSM HT6
            go_wp2_with fail
            go_roundw
            case rel => exact ⟨k + 1, by omega, by go_num, Lib.hid ⟨_, _, _, _, HT7.out, HRL.out⟩⟩
            case measure => simp [intOf]; omega
          · have HRL := Lib.hid (HRR.out.put_dead (n := 20) at' S hq1)
            have hq2 : decide (A.ops < q) = false := by simpa using hq1
            clear hq1
            generalize A.ops = o1 at *
            go_wp2_with fail
            refine HO.out.mono ?_
            rintro e w' ⟨rfl, rfl⟩
            clear HO
            obtain ⟨b, hb⟩ : ∃ b, decide ((q : Int) ≤ (((A.puts 20 at' S)).ops : Int)) = b := ⟨_, rfl⟩
            obtain ⟨o, ho⟩ : ∃ o, ((A.puts 20 at' S)).ops = o := ⟨_, rfl⟩
            have HD : Hid (Calls Try.prog 14 #[.pointer (some ⟨d, 0, none⟩)] w2 (GivesDrew b w2)) := Lib.hid (by rw [← hb, ← HRL.out.dead]; exact Dead_any HT2.out.one)
            have HO1 : Hid (∀ j, Calls Try.prog 13 #[.pointer (some ⟨d, 0, none⟩)] ((w2).drewN j) fun e w' => e = .returned (.int .i64 (o : Int)) ∧ (w2).drewN j = w') := Lib.hid fun j => by rw [← ho]; exact Ops_any (HT2.out.kept (below_drewN _ j)).one
            have HO2 : Hid (∀ j, Calls Try.prog 13 #[.pointer (some ⟨x, 0, none⟩)] ((w2).drewN j) fun e w' => e = .returned (.int .i64 (o : Int)) ∧ (w2).drewN j = w') := Lib.hid fun j => by rw [← ho, HRL.out.like.2.2.2]; exact Ops_any (HT2.out.kept (below_drewN _ j)).two
            have HS1 : Hid (∀ j, Calls Try.prog 9 #[.pointer (some ⟨d, 0, none⟩)] ((w2).drewN j) (Copied ((A.puts 20 at' S)).seen 20 ((w2).drewN j))) := Lib.hid fun j => Sectors_any (HT2.out.kept (below_drewN _ j)).one (by omega)
            have hb1 : decide ((q : Int) ≤ (o : Int)) = b := by rw [← ho]; exact hb
            have hb2 : decide (q ≤ o) = b := by rw [← hb1]; simp
            have HLN : Hid (((A.puts 20 at' S)).seen.length = 64 * 20) := Lib.hid HT2.out.one.fits.seen
            clear hb ho
            go_wp2_with fail
            refine HD.out.mono ?_
            rintro e w' ⟨rfl, j1, rfl⟩
            go_wp2_with fail
            refine (HO1.out j1).mono ?_
            rintro e w' ⟨rfl, rfl⟩
            go_wp2_with fail
            refine (HO1.out j1).mono ?_
            rintro e w' ⟨rfl, rfl⟩
            go_wp2_with fail
            refine (HO2.out j1).mono ?_
            rintro e w' ⟨rfl, rfl⟩
            go_wp2_with fail
            refine (HS1.out j1).mono ?_
            rintro e w5 ⟨g1, e1, rfl, hr1, hg1, hl1, hb5⟩
            have HT5 := Lib.hid ((HT2.out.kept (below_drewN _ j1)).kept hb5)
            have HS2 : Hid (Calls Try.prog 9 #[.pointer (some ⟨x, 0, none⟩)] w5 (Copied ((A.puts 20 at' S)).seen 20 w5)) := Lib.hid (by rw [HRL.out.like.1]; exact Sectors_any HT5.out.two (by omega))
            have HR1 := Lib.hid hr1
            have HL1 := Lib.hid hl1
            clear hr1 hg1 hl1 hb5 HS1 HD HO1 HO2
            go_wp2_with fail
            refine HS2.out.mono ?_
            rintro e w6 ⟨g2, e2, rfl, hr2, hg2, hl2, hb6⟩
            have HT6 := Lib.hid (HT5.out.kept hb6)
            have HSM := Lib.hid (Same_yes (w := w6) (n := 20) g1 g2 e1 e2 ((A.puts 20 at' S)).seen HLN.out (by omega) (fun j y hy => (hb6.cell (p := ⟨g1, 0 + j, none⟩) HL1.out).trans (HR1.out j y hy)) hr2)
            clear hr2 hg2 hl2 hb6 HS2 HR1 HL1 HT5
            go_wp2_with fail
            refine HSM.out.mono ?_
            rintro e w7 ⟨rfl, j2, rfl⟩
            have HT7 := Lib.hid (HT6.out.kept (below_drewN _ j2))
            clear HSM HT6
            go_wp2_with fail
            go_roundw
            case rel => exact ⟨k + 1, by omega, by go_num, Lib.hid ⟨_, _, _, _, HT7.out, HRL.out⟩⟩
            case measure => simp [intOf]; omega
        · have h0' : ((wh : Int) == 0) = false := by simpa using h0
          by_cases h1 : wh = 1
          · have h1' : ((wh : Int) == 1) = true := by simpa using h1
            have HW := Lib.hid (Flush_any HT.out.one (by have := HRR.out.ops; omega))
            clear h0 h1
            go_wp2_with (first | (with_reducible refine wpList_load_mid rfl 31 (.tmp 48) rfl g (off + k * 68) rfl C _ hcl Try.underlying31 rfl hcz ?_) | (with_reducible refine wpList_alloc_agg rfl 31 rfl Z.toArray zc ?_) | (with_reducible refine wpList_load_mid rfl 29 (.tmp 56) rfl wr.heap.size 3 rfl (bys S) _ b3' Try.underlying29 rfl hs64 ?_) | (with_reducible refine wpList_store_new rfl 31 (.tmp 11) (.tmp 49) rfl wr Z.toArray C.toArray rfl rfl rfl (by rw [hcz]; simp) (by rw [List.size_toArray, List.size_toArray, HZL.out, HCN.out]) (all_oneCell_toArray HC1.out) ?_))
            rw [← HW1.out]
            refine HW.out.mono ?_
            intro e w2 hd2
            obtain ⟨v2, hT2, hf2⟩ := HT.out.did hd2
            obtain ⟨rfl, _⟩ := hd2
            have HT2 := Lib.hid hT2
            have HO : Hid (Calls Try.prog 13 #[.pointer (some ⟨x, 0, none⟩)] w2 fun e w' => e = .returned (.int .i64 (A.ops : Int)) ∧ w2 = w') := Lib.hid (by rw [HRR.out.like.2.2.2]; exact Ops_any hT2.two)
            clear hT2 hf2 HW b0 b1 b3
            by_cases hq1 : A.ops < q
            · have HRL := Lib.hid (HRR.out.flush (by omega) hq1)
              have HWX := Lib.hid (Flush_any HT2.out.two (by have := HRR.out.ops; have := HRR.out.like.2.2.2; omega))
              have hq2 : decide (A.ops < q) = true := by simpa using hq1
              clear hq1
              generalize A.ops = o1 at *
              go_wp2_with fail
              refine HO.out.mono ?_
              rintro e w' ⟨rfl, rfl⟩
              clear HO
              go_wp2_with fail
              refine HWX.out.mono ?_
              intro e w3 hd3
              obtain ⟨u3, hT3, _⟩ := HT2.out.swap.did hd3
              obtain ⟨rfl, _⟩ := hd3
              have HT3 := Lib.hid hT3.swap
              clear hT3 HWX hq2 HT2
              obtain ⟨b, hb⟩ : ∃ b, decide ((q : Int) ≤ ((A.flushes).ops : Int)) = b := ⟨_, rfl⟩
              obtain ⟨o, ho⟩ : ∃ o, (A.flushes).ops = o := ⟨_, rfl⟩
              have HD : Hid (Calls Try.prog 14 #[.pointer (some ⟨d, 0, none⟩)] w3 (GivesDrew b w3)) := Lib.hid (by rw [← hb, ← HRL.out.dead]; exact Dead_any HT3.out.one)
              have HO1 : Hid (∀ j, Calls Try.prog 13 #[.pointer (some ⟨d, 0, none⟩)] ((w3).drewN j) fun e w' => e = .returned (.int .i64 (o : Int)) ∧ (w3).drewN j = w') := Lib.hid fun j => by rw [← ho]; exact Ops_any (HT3.out.kept (below_drewN _ j)).one
              have HO2 : Hid (∀ j, Calls Try.prog 13 #[.pointer (some ⟨x, 0, none⟩)] ((w3).drewN j) fun e w' => e = .returned (.int .i64 (o : Int)) ∧ (w3).drewN j = w') := Lib.hid fun j => by rw [← ho, HRL.out.like.2.2.2]; exact Ops_any (HT3.out.kept (below_drewN _ j)).two
              have HS1 : Hid (∀ j, Calls Try.prog 9 #[.pointer (some ⟨d, 0, none⟩)] ((w3).drewN j) (Copied (A.flushes).seen 20 ((w3).drewN j))) := Lib.hid fun j => Sectors_any (HT3.out.kept (below_drewN _ j)).one (by omega)
              have hb1 : decide ((q : Int) ≤ (o : Int)) = b := by rw [← ho]; exact hb
              have hb2 : decide (q ≤ o) = b := by rw [← hb1]; simp
              have HLN : Hid ((A.flushes).seen.length = 64 * 20) := Lib.hid HT3.out.one.fits.seen
              clear hb ho
              go_wp2_with fail
              refine HD.out.mono ?_
              rintro e w' ⟨rfl, j1, rfl⟩
              go_wp2_with fail
              refine (HO1.out j1).mono ?_
              rintro e w' ⟨rfl, rfl⟩
              go_wp2_with fail
              refine (HO1.out j1).mono ?_
              rintro e w' ⟨rfl, rfl⟩
              go_wp2_with fail
              refine (HO2.out j1).mono ?_
              rintro e w' ⟨rfl, rfl⟩
              go_wp2_with fail
              refine (HS1.out j1).mono ?_
              rintro e w5 ⟨g1, e1, rfl, hr1, hg1, hl1, hb5⟩
              have HT5 := Lib.hid ((HT3.out.kept (below_drewN _ j1)).kept hb5)
              have HS2 : Hid (Calls Try.prog 9 #[.pointer (some ⟨x, 0, none⟩)] w5 (Copied (A.flushes).seen 20 w5)) := Lib.hid (by rw [HRL.out.like.1]; exact Sectors_any HT5.out.two (by omega))
              have HR1 := Lib.hid hr1
              have HL1 := Lib.hid hl1
              clear hr1 hg1 hl1 hb5 HS1 HD HO1 HO2
              go_wp2_with fail
              refine HS2.out.mono ?_
              rintro e w6 ⟨g2, e2, rfl, hr2, hg2, hl2, hb6⟩
              have HT6 := Lib.hid (HT5.out.kept hb6)
              have HSM := Lib.hid (Same_yes (w := w6) (n := 20) g1 g2 e1 e2 (A.flushes).seen HLN.out (by omega) (fun j y hy => (hb6.cell (p := ⟨g1, 0 + j, none⟩) HL1.out).trans (HR1.out j y hy)) hr2)
              clear hr2 hg2 hl2 hb6 HS2 HR1 HL1 HT5
              go_wp2_with fail
              refine HSM.out.mono ?_
              rintro e w7 ⟨rfl, j2, rfl⟩
              have HT7 := Lib.hid (HT6.out.kept (below_drewN _ j2))
              clear HSM HT6
              go_wp2_with fail
              go_roundw
              case rel => exact ⟨k + 1, by omega, by go_num, Lib.hid ⟨_, _, _, _, HT7.out, HRL.out⟩⟩
              case measure => simp [intOf]; omega
            · have HRL := Lib.hid (HRR.out.flush_dead hq1)
              have hq2 : decide (A.ops < q) = false := by simpa using hq1
              clear hq1
              generalize A.ops = o1 at *
              go_wp2_with fail
              refine HO.out.mono ?_
              rintro e w' ⟨rfl, rfl⟩
              clear HO
              obtain ⟨b, hb⟩ : ∃ b, decide ((q : Int) ≤ ((A.flushes).ops : Int)) = b := ⟨_, rfl⟩
              obtain ⟨o, ho⟩ : ∃ o, (A.flushes).ops = o := ⟨_, rfl⟩
              have HD : Hid (Calls Try.prog 14 #[.pointer (some ⟨d, 0, none⟩)] w2 (GivesDrew b w2)) := Lib.hid (by rw [← hb, ← HRL.out.dead]; exact Dead_any HT2.out.one)
              have HO1 : Hid (∀ j, Calls Try.prog 13 #[.pointer (some ⟨d, 0, none⟩)] ((w2).drewN j) fun e w' => e = .returned (.int .i64 (o : Int)) ∧ (w2).drewN j = w') := Lib.hid fun j => by rw [← ho]; exact Ops_any (HT2.out.kept (below_drewN _ j)).one
              have HO2 : Hid (∀ j, Calls Try.prog 13 #[.pointer (some ⟨x, 0, none⟩)] ((w2).drewN j) fun e w' => e = .returned (.int .i64 (o : Int)) ∧ (w2).drewN j = w') := Lib.hid fun j => by rw [← ho, HRL.out.like.2.2.2]; exact Ops_any (HT2.out.kept (below_drewN _ j)).two
              have HS1 : Hid (∀ j, Calls Try.prog 9 #[.pointer (some ⟨d, 0, none⟩)] ((w2).drewN j) (Copied (A.flushes).seen 20 ((w2).drewN j))) := Lib.hid fun j => Sectors_any (HT2.out.kept (below_drewN _ j)).one (by omega)
              have hb1 : decide ((q : Int) ≤ (o : Int)) = b := by rw [← ho]; exact hb
              have hb2 : decide (q ≤ o) = b := by rw [← hb1]; simp
              have HLN : Hid ((A.flushes).seen.length = 64 * 20) := Lib.hid HT2.out.one.fits.seen
              clear hb ho
              go_wp2_with fail
              refine HD.out.mono ?_
              rintro e w' ⟨rfl, j1, rfl⟩
              go_wp2_with fail
              refine (HO1.out j1).mono ?_
              rintro e w' ⟨rfl, rfl⟩
              go_wp2_with fail
              refine (HO1.out j1).mono ?_
              rintro e w' ⟨rfl, rfl⟩
              go_wp2_with fail
              refine (HO2.out j1).mono ?_
              rintro e w' ⟨rfl, rfl⟩
              go_wp2_with fail
              refine (HS1.out j1).mono ?_
              rintro e w5 ⟨g1, e1, rfl, hr1, hg1, hl1, hb5⟩
              have HT5 := Lib.hid ((HT2.out.kept (below_drewN _ j1)).kept hb5)
              have HS2 : Hid (Calls Try.prog 9 #[.pointer (some ⟨x, 0, none⟩)] w5 (Copied (A.flushes).seen 20 w5)) := Lib.hid (by rw [HRL.out.like.1]; exact Sectors_any HT5.out.two (by omega))
              have HR1 := Lib.hid hr1
              have HL1 := Lib.hid hl1
              clear hr1 hg1 hl1 hb5 HS1 HD HO1 HO2
              go_wp2_with fail
              refine HS2.out.mono ?_
              rintro e w6 ⟨g2, e2, rfl, hr2, hg2, hl2, hb6⟩
              have HT6 := Lib.hid (HT5.out.kept hb6)
              have HSM := Lib.hid (Same_yes (w := w6) (n := 20) g1 g2 e1 e2 (A.flushes).seen HLN.out (by omega) (fun j y hy => (hb6.cell (p := ⟨g1, 0 + j, none⟩) HL1.out).trans (HR1.out j y hy)) hr2)
              clear hr2 hg2 hl2 hb6 HS2 HR1 HL1 HT5
              go_wp2_with fail
              refine HSM.out.mono ?_
              rintro e w7 ⟨rfl, j2, rfl⟩
              have HT7 := Lib.hid (HT6.out.kept (below_drewN _ j2))
              clear HSM HT6
              go_wp2_with fail
              go_roundw
              case rel => exact ⟨k + 1, by omega, by go_num, Lib.hid ⟨_, _, _, _, HT7.out, HRL.out⟩⟩
              case measure => simp [intOf]; omega
          · have h1' : ((wh : Int) == 1) = false := by simpa using h1
            have HRL := Lib.hid HRR.out.more
            clear h0 h1
            obtain ⟨b, hb⟩ : ∃ b, decide ((q : Int) ≤ ((A).ops : Int)) = b := ⟨_, rfl⟩
            obtain ⟨o, ho⟩ : ∃ o, (A).ops = o := ⟨_, rfl⟩
            have HD : Hid (Calls Try.prog 14 #[.pointer (some ⟨d, 0, none⟩)] W1 (GivesDrew b W1)) := Lib.hid (by rw [← hb, ← HRL.out.dead]; exact Dead_any HT.out.one)
            have HO1 : Hid (∀ j, Calls Try.prog 13 #[.pointer (some ⟨d, 0, none⟩)] ((W1).drewN j) fun e w' => e = .returned (.int .i64 (o : Int)) ∧ (W1).drewN j = w') := Lib.hid fun j => by rw [← ho]; exact Ops_any (HT.out.kept (below_drewN _ j)).one
            have HO2 : Hid (∀ j, Calls Try.prog 13 #[.pointer (some ⟨x, 0, none⟩)] ((W1).drewN j) fun e w' => e = .returned (.int .i64 (o : Int)) ∧ (W1).drewN j = w') := Lib.hid fun j => by rw [← ho, HRL.out.like.2.2.2]; exact Ops_any (HT.out.kept (below_drewN _ j)).two
            have HS1 : Hid (∀ j, Calls Try.prog 9 #[.pointer (some ⟨d, 0, none⟩)] ((W1).drewN j) (Copied (A).seen 20 ((W1).drewN j))) := Lib.hid fun j => Sectors_any (HT.out.kept (below_drewN _ j)).one (by omega)
            have hb1 : decide ((q : Int) ≤ (o : Int)) = b := by rw [← ho]; exact hb
            have hb2 : decide (q ≤ o) = b := by rw [← hb1]; simp
            have HLN : Hid ((A).seen.length = 64 * 20) := Lib.hid HT.out.one.fits.seen
            clear hb ho
            go_wp2_with (first | (with_reducible refine wpList_load_mid rfl 31 (.tmp 48) rfl g (off + k * 68) rfl C _ hcl Try.underlying31 rfl hcz ?_) | (with_reducible refine wpList_alloc_agg rfl 31 rfl Z.toArray zc ?_) | (with_reducible refine wpList_load_mid rfl 29 (.tmp 56) rfl wr.heap.size 3 rfl (bys S) _ b3' Try.underlying29 rfl hs64 ?_) | (with_reducible refine wpList_store_new rfl 31 (.tmp 11) (.tmp 49) rfl wr Z.toArray C.toArray rfl rfl rfl (by rw [hcz]; simp) (by rw [List.size_toArray, List.size_toArray, HZL.out, HCN.out]) (all_oneCell_toArray HC1.out) ?_))
            rw [← HW1.out]
            refine HD.out.mono ?_
            rintro e w' ⟨rfl, j1, rfl⟩
            go_wp2_with fail
            refine (HO1.out j1).mono ?_
            rintro e w' ⟨rfl, rfl⟩
            go_wp2_with fail
            refine (HO1.out j1).mono ?_
            rintro e w' ⟨rfl, rfl⟩
            go_wp2_with fail
            refine (HO2.out j1).mono ?_
            rintro e w' ⟨rfl, rfl⟩
            go_wp2_with fail
            refine (HS1.out j1).mono ?_
            rintro e w5 ⟨g1, e1, rfl, hr1, hg1, hl1, hb5⟩
            have HT5 := Lib.hid ((HT.out.kept (below_drewN _ j1)).kept hb5)
            have HS2 : Hid (Calls Try.prog 9 #[.pointer (some ⟨x, 0, none⟩)] w5 (Copied (A).seen 20 w5)) := Lib.hid (by rw [HRL.out.like.1]; exact Sectors_any HT5.out.two (by omega))
            have HR1 := Lib.hid hr1
            have HL1 := Lib.hid hl1
            clear hr1 hg1 hl1 hb5 HS1 HD HO1 HO2
            go_wp2_with fail
            refine HS2.out.mono ?_
            rintro e w6 ⟨g2, e2, rfl, hr2, hg2, hl2, hb6⟩
            have HT6 := Lib.hid (HT5.out.kept hb6)
            have HSM := Lib.hid (Same_yes (w := w6) (n := 20) g1 g2 e1 e2 (A).seen HLN.out (by omega) (fun j y hy => (hb6.cell (p := ⟨g1, 0 + j, none⟩) HL1.out).trans (HR1.out j y hy)) hr2)
            clear hr2 hg2 hl2 hb6 HS2 HR1 HL1 HT5
            go_wp2_with fail
            refine HSM.out.mono ?_
            rintro e w7 ⟨rfl, j2, rfl⟩
            have HT7 := Lib.hid (HT6.out.kept (below_drewN _ j2))
            clear HSM HT6
            go_wp2_with fail
            go_roundw
            case rel => exact ⟨k + 1, by omega, by go_num, Lib.hid ⟨_, _, _, _, HT7.out, HRL.out⟩⟩
            case measure => simp [intOf]; omega
      · obtain rfl : k = L := by omega
        obtain ⟨v, u, A, B, hT, hRl⟩ := HK.out
        have HT := Lib.hid hT
        have HRR := Lib.hid hRl
        have HC1 := Lib.hid (Crash_any hT.one (a := none) (ks := []) (c := 0) (torn := -1) (tear := 0) ⟨.nil _ _, by simp, by omega, by omega, .inl rfl⟩)
        clear hT hRl HK
        go_wp2_with fail
        refine HC1.out.mono ?_
        intro e w2 hd2
        obtain ⟨v2, hT2, _⟩ := HT.out.did hd2
        obtain ⟨rfl, _⟩ := hd2
        have HT2 := Lib.hid hT2
        have HC2 := Lib.hid (Crash_any hT2.two (a := none) (ks := []) (c := 0) (torn := -1) (tear := 0) ⟨.nil _ _, by simp, by omega, by omega, .inl rfl⟩)
        clear hT2 HC1 HT
        go_wp2_with fail
        refine HC2.out.mono ?_
        intro e w3 hd3
        obtain ⟨u3, hT3, _⟩ := HT2.out.swap.did hd3
        obtain ⟨rfl, _⟩ := hd3
        have HT3 := Lib.hid hT3.swap
        have hlk := Dk.like_crash HRR.out.like (muchN [] (-1) 0)
        obtain ⟨R, hR⟩ : ∃ R, (A.crash (muchN [] (-1) 0)).seen = R := ⟨_, rfl⟩
        have hR2 : (B.crash (muchN [] (-1) 0)).seen = R := by rw [← hR]; exact hlk.1.symm
        have HLN : Hid (R.length = 64 * 20) := Lib.hid (by rw [← hR]; exact HT3.out.one.fits.seen)
        have HD : Hid (Calls Try.prog 14 #[.pointer (some ⟨d, 0, none⟩)] w3 (GivesDrew false w3)) := Lib.hid (by
          have := Dead_any HT3.out.one
          rw [show (A.crash (muchN [] (-1) 0)).dead = false by
            unfold Dk.DV.dead
            have := HRR.out.ops
            show decide ((9223372036854775807 : Int) ≤ (A.ops : Int)) = false
            simp; omega] at this
          exact this)
        have HS1 : Hid (∀ j, Calls Try.prog 9 #[.pointer (some ⟨d, 0, none⟩)] (w3.drewN j) (Copied R 20 (w3.drewN j))) := Lib.hid fun j => by rw [← hR]; exact Sectors_any (HT3.out.kept (below_drewN _ j)).one (by omega)
        have HR2 := Lib.hid hR2
        clear hT3 HC2 HT2 hlk hR hR2
        go_wp2_with fail
        refine HD.out.mono ?_
        rintro e w' ⟨rfl, j1, rfl⟩
        go_wp2_with fail
        refine (HS1.out j1).mono ?_
        rintro e w5 ⟨g1, e1, rfl, hr1, hg1, hl1, hb5⟩
        have HT5 := Lib.hid ((HT3.out.kept (below_drewN _ j1)).kept hb5)
        have HS2 : Hid (Calls Try.prog 9 #[.pointer (some ⟨x, 0, none⟩)] w5 (Copied R 20 w5)) := Lib.hid (by rw [← HR2.out]; exact Sectors_any HT5.out.two (by omega))
        have HR1 := Lib.hid hr1
        have HL1 := Lib.hid hl1
        clear hr1 hg1 hl1 hb5 HS1 HD
        go_wp2_with fail
        refine HS2.out.mono ?_
        rintro e w6 ⟨g2, e2, rfl, hr2, hg2, hl2, hb6⟩
        have HT6 := Lib.hid (HT5.out.kept hb6)
        have HSM := Lib.hid (Same_yes (w := w6) (n := 20) g1 g2 e1 e2 R HLN.out (by omega) (fun j y hy => (hb6.cell (p := ⟨g1, 0 + j, none⟩) HL1.out).trans (HR1.out j y hy)) hr2)
        clear hr2 hg2 hl2 hb6 HS2 HR1 HL1 HT5
        go_wp2_with fail
        refine HSM.out.mono ?_
        rintro e w7 ⟨rfl, j2, rfl⟩
        have HT7 := Lib.hid (HT6.out.kept (below_drewN _ j2))
        clear HSM HT6
        go_wp2_with fail
        go_ret
        exact ⟨rfl, HT7.out.below⟩
end Go.Proofs.Ytmgeokkeknageaa
