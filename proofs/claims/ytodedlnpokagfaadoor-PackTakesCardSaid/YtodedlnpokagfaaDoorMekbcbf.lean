/- By program out of: PkRef2, PkRef3. -/
import Derived.Test.YtodedlnpokagfaaDoorMibdfpo
/-
  Layer 4: the document's In: Done, Int, Flag, Count, Bytes.
-/
set_option linter.unusedVariables false
set_option linter.unusedSimpArgs false
namespace Go.Proofs.YtodedlnpokagfaaDoor
open Go.RowKit Rep

/-- A call gives a value; what there was is as it was. -/
def GivesX (v : Value) (w : World) (e : Ending) (w' : World) : Prop := e = .returned v ∧ Hid (Below w.heap.size w w')
theorem xtake_any {w : World} {x n : Nat} {s : Pk.St} (h : XSt w x s) (hn : n ≤ 140737488355328) :
    Calls Tryd.prog 33 #[.pointer (some ⟨x, 0, none⟩), .int .i64 (n : Int)] w (XTakesL u8v x (Pk.cutV n s) (Pk.cutN n s) w) := by
  by_cases hno : Pk.left s < n ∨ s.isNone = true
  · have e : Pk.cutN n s = none ∧ Pk.cutV n s = [] := by
      rcases hno with h1 | h1
      · exact cut_over h1
      · cases s with
        | none => exact ⟨rfl, rfl⟩
        | some r => cases h1
    rw [e.1, e.2]
    exact xtake_no h hn hno
  · rw [not_or] at hno
    exact xtake_yes h (by omega) (Bool.eq_false_iff.2 hno.2)
theorem xst_byt {w : World} {x : Nat} {s : Pk.St} (h : XSt w x s) : ∀ r, s = some r → Pk.Byt r := by
  obtain ⟨a, c, B, at', h⟩ := h
  intro r e
  rw [h.st r e]
  exact h.bytes.byt.drop _
theorem xval_lt {k : Nat} {s : Pk.St} {w : World} {x : Nat} (h : XSt w x s) (hk : k ≤ 8) : Pk.val (Pk.cutV k s) < 18446744073709551616 := by
  have h1 := Pk.val_lt (Pk.cutV_byt (k := k) (xst_byt h))
  have h2 := Pk.cutV_len k s
  have h3 : (256 : Nat) ^ (Pk.cutV k s).length ≤ 256 ^ 8 := Nat.pow_le_pow_right (by omega) (by omega)
  have h4 : (256 : Nat) ^ 8 = 18446744073709551616 := by decide
  omega

set_option maxRecDepth 100000 in
set_option maxHeartbeats 1600000 in
theorem XInt_any {w : World} {x : Nat} {s : Pk.St} (h : XSt w x s) : Calls Tryd.prog 16 #[.pointer (some ⟨x, 0, none⟩)] w (XTakes x (.int .i64 (Pk.intV s)) (Pk.intN s) w) := by
  have HC := Lib.hid (xtake_any h (n := ((8 : Nat))) (by omega))
  have hlen := Pk.cutV_len 8 s
  have HV : Hid (Pk.val (Pk.cutV 8 s) < 18446744073709551616) := Lib.hid (xval_lt h (by omega))
  have HBY : Hid (Pk.Byt (Pk.cutV 8 s)) := Lib.hid (Pk.cutV_byt (xst_byt h))
  unfold Pk.intV Pk.intN
  clear h
  generalize Pk.cutV 8 s = bs at *
  generalize Pk.cutN 8 s = s' at *
  go_enter Tryd.func16, Tryd.ntmps16
  go_wp2_with fail
  refine HC.out.mono ?_
  rintro e w1 ⟨a, c, rfl, G0, G1, G2, G3, G4⟩
  clear HC
  have hcl := G1.out.1
  have hcm := G1.out.2
  unfold maxLen at hcm
  go_wp2_with fail
  go_loop [4, 5] (fun nv iv => ∃ j : Nat, j ≤ bs.length ∧ iv = .int .i64 j ∧ nv = .int .u64 (Pk.val (bs.take j) : Int)) (fun _ iv => bs.length - (intOf iv).toNat)
  case atStart => exact ⟨0, Nat.zero_le _, rfl, rfl⟩
  case round =>
    obtain ⟨j, hj, rfl, rfl⟩ := hrel
    by_cases hlt : j < bs.length
    · obtain ⟨g, off, rfl, hg, hcell⟩ := G0.out.open' (by rw [List.length_map]; omega)
      have hck := hcell j _ (map_getElem? (xs := bs) hlt)
      have HT := Lib.hid (val_take hlt)
      have hb := byt_getD HBY.out j
      have hv := val_small HBY.out (j := j) (by omega)
      unfold u8v at hck
      clear hcell
      generalize Pk.val (bs.take j) = v at *
      generalize bs.getD j 0 = b at *
      go_wp2_with fail
      go_round
      case rel => exact ⟨j + 1, by omega, by go_num, by rw [HT.out]; congr 1; omega⟩
      case measure => simp [intOf]; omega
    · obtain rfl : j = bs.length := by omega
      rw [List.take_length]
      go_wp2_with fail
      go_ret
      exact ⟨by rw [iN_wrap HV.out]; rfl, G3, G4⟩

set_option maxRecDepth 100000 in
set_option maxHeartbeats 1600000 in
theorem XDone_any {w : World} {x : Nat} {s : Pk.St} (h : XSt w x s) : Calls Tryd.prog 10 #[.pointer (some ⟨x, 0, none⟩)] w (GivesX (.int .i64 (doneV s)) w) := by
  obtain ⟨a, c, B, at', h⟩ := h
  obtain ⟨c0, c1, c2, f0, f1, f2⟩ := h.cells
  have hle := h.le
  have hcl := h.bytes.le
  have hcc := h.bytes.len
  have HL := Lib.hid h.left
  have HD : Hid (∀ nq, Below w.heap.size w (w.drewN nq)) := Lib.hid fun nq => Below.drewN' (Below.refl _ _) nq
  clear h
  cases hs : s.isNone
  case true =>
    rw [hs] at c2
    have HV : Hid (doneV s = 3) := Lib.hid (by unfold doneV; rw [hs, if_pos (.inl rfl)])
    clear HL hs
    go_enter Tryd.func10, Tryd.ntmps10
    go_wp2_with fail
    go_quiet (fail)
    go_wp2_with fail
    go_ret
    exact ⟨by rw [HV.out]; rfl, Lib.hid (HD.out nq)⟩
  case false =>
    rw [hs] at c2
    have hl := HL.out hs
    by_cases hlt : at' < B.length
    · have hd : decide (at' < B.length) = true := decide_eq_true hlt
      have HV : Hid (doneV s = 3) := Lib.hid (by unfold doneV; rw [hs, if_pos (.inr (by omega))])
      clear HL hs hl
      go_enter Tryd.func10, Tryd.ntmps10
      go_wp2_with fail
      go_quiet (fail)
      go_wp2_with fail
      go_ret
      exact ⟨by rw [HV.out]; rfl, Lib.hid (HD.out nq)⟩
    · have hd : decide (at' < B.length) = false := decide_eq_false hlt
      have HV : Hid (doneV s = 0) := Lib.hid (by unfold doneV; rw [hs, if_neg (by simp; omega)])
      clear HL hs hl
      go_enter Tryd.func10, Tryd.ntmps10
      go_wp2_with fail
      go_quiet (fail)
      go_wp2_with fail
      go_ret
      exact ⟨by rw [HV.out]; rfl, Lib.hid (HD.out nq)⟩

set_option maxRecDepth 100000 in
set_option maxHeartbeats 1600000 in
theorem XFlag_any {w : World} {x : Nat} {s : Pk.St} (h : XSt w x s) : Calls Tryd.prog 18 #[.pointer (some ⟨x, 0, none⟩)] w (XTakes x (.bool (Pk.flagV s)) (Pk.flagN s) w) := by
  have HC := Lib.hid (xtake_any h (n := ((1 : Nat))) (by omega))
  have HBY : Hid (Pk.Byt (Pk.cutV 1 s)) := Lib.hid (Pk.cutV_byt (xst_byt h))
  have hlen := Pk.cutV_len 1 s
  unfold Pk.flagV Pk.flagN
  clear h
  generalize Pk.cutV 1 s = bs at *
  generalize Pk.cutN 1 s = s' at *
  rcases bs with _ | ⟨b, _ | ⟨b', bs⟩⟩
  · have HV : Hid (decide (Pk.val [] = 1) = false ∧ (if Pk.val [] ≤ 1 then s' else none) = s') := Lib.hid ⟨by decide, by rw [if_pos (by decide)]⟩
    obtain ⟨d, hd⟩ : ∃ d, d = decide (Pk.val [] = 1) := ⟨_, rfl⟩
    rw [HV.out.2, HV.out.1]
    clear HV hd
    go_enter Tryd.func18, Tryd.ntmps18
    go_wp2_with fail
    refine HC.out.mono ?_
    rintro e w1 ⟨a, c, rfl, G0, G1, G2, G3, G4⟩
    clear HC
    go_wp2_with fail
    go_ret
    exact ⟨rfl, G3, G4⟩
  · have HE : Hid (Pk.val [b] = b) := Lib.hid (by simp [Pk.val])
    have hb : b < 256 := HBY.out b (by simp)
    rw [HE.out]
    by_cases hv : b ≤ 1
    · have hd : decide ((1 : Int) < (b : Int)) = false := decide_eq_false (by omega)
      rw [if_pos hv]
      go_enter Tryd.func18, Tryd.ntmps18
      go_wp2_with fail
      refine HC.out.mono ?_
      rintro e w1 ⟨a, c, rfl, G0, G1, G2, G3, G4⟩
      clear HC
      obtain ⟨g, off, rfl, hg, hcell⟩ := G0.out.open' (by simp)
      have hck := hcell 0 _ (map_getElem? (xs := [b]) (f := u8v) (by simp))
      have hcl := G1.out.1
      simp only [List.length_cons, List.length_nil, Nat.zero_add] at hcl
      unfold u8v at hck
      simp only [List.getD_cons_zero, Nat.add_zero] at hck
      clear hcell
      go_wp2_with fail
      go_ret
      exact ⟨by rw [← beq_dec]; rfl, G3, G4⟩
    · have hd : decide ((1 : Int) < (b : Int)) = true := decide_eq_true (by omega)
      have HX : Hid (decide (b = 1) = false) := Lib.hid (decide_eq_false (by omega))
      rw [if_neg hv, HX.out]
      have he : ((b : Int) == 1) = false := by rw [beq_dec, HX.out]
      clear HX
      go_enter Tryd.func18, Tryd.ntmps18
      go_wp2_with fail
      refine HC.out.mono ?_
      rintro e w1 ⟨a, c, rfl, G0, G1, G2, G3, G4⟩
      clear HC
      obtain ⟨g, off, rfl, hg, hcell⟩ := G0.out.open' (by simp)
      have hck := hcell 0 _ (map_getElem? (xs := [b]) (f := u8v) (by simp))
      have hcl := G1.out.1
      simp only [List.length_cons, List.length_nil, Nat.zero_add] at hcl
      unfold u8v at hck
      simp only [List.getD_cons_zero, Nat.add_zero] at hck
      obtain ⟨xa, xc, B, at', hx⟩ := G3.out
      obtain ⟨c0, c1, c2, f0, f1, f2⟩ := hx.cells
      have HW := Lib.hid hx.wrong
      have hgx : g ≠ x := fun e => by subst e; exact hx.no _ _ hck
      clear hcell hx
      go_wp2_with fail
      go_ret
      exact ⟨rfl, Lib.hid HW.out.1, Lib.hid (grownBy_trans_new G4.out HW.out.2)⟩
  · simp at hlen
end Go.Proofs.YtodedlnpokagfaaDoor


/-
  Layer 4: the document's In: Count, Bytes.
-/
set_option linter.unusedVariables false
set_option linter.unusedSimpArgs false
namespace Go.Proofs.YtodedlnpokagfaaDoor
open Go.RowKit Rep

theorem xintV_le {s : Pk.St} {w : World} {x : Nat} (h : XSt w x s) : -9223372036854775808 ≤ Pk.intV s ∧ Pk.intV s ≤ 9223372036854775807 := by
  have h1 := xval_lt h (k := 8) (by omega)
  exact ⟨Pk.iN_ge h1, Pk.iN_le h1⟩
theorem intV_none {s : Pk.St} (h : Pk.intN s = none) : Pk.intV s = 0 := by
  unfold Pk.intN at h
  unfold Pk.intV
  rcases s with _ | r
  · rfl
  · unfold Pk.cutN at h
    unfold Pk.cutV
    dsimp only at h ⊢
    split at h
    · cases h
    · rename_i h8; rw [if_neg h8]; rfl

set_option maxRecDepth 100000 in
set_option maxHeartbeats 4000000 in
theorem XCount_any {w : World} {x : Nat} {s : Pk.St} {m : Int} (h : XSt w x s) (hm : -9223372036854775808 ≤ m ∧ m ≤ 9223372036854775807) : Calls Tryd.prog 27 #[.pointer (some ⟨x, 0, none⟩), .int .i64 m] w (XTakes x (.int .i64 (Pk.countV m s : Int)) (Pk.countN m s) w) := by
  have HC := Lib.hid (XInt_any h)
  have hb := xintV_le h
  have HZ := Lib.hid (@intV_none s)
  unfold Pk.countV Pk.countN Pk.countOK
  clear h
  generalize Pk.intV s = v at *
  generalize Pk.intN s = s' at *
  obtain ⟨v1, v2⟩ := hb
  obtain ⟨m1, m2⟩ := hm
  obtain ⟨M, hM⟩ : ∃ M : Nat, max m 1 = (M : Int) := ⟨(max m 1).toNat, by omega⟩
  have hM1 : 1 ≤ (M : Int) := by omega
  have hM0 : (max m 1).toNat = M := by omega
  rw [hM0]
  have HMM : Hid ((m < 1 → (1 : Int) = M) ∧ (¬ m < 1 → m = M)) := Lib.hid ⟨fun h => by omega, fun h => by omega⟩
  have HW : Hid (∀ n : Nat, n ≤ 140737488355328 → wrap64 ((n : Int) / (M : Int)) = ((n / M : Nat) : Int)) := Lib.hid fun n hn => by
    have h1 : n / M ≤ n := Nat.div_le_self _ _
    rw [← Int.natCast_ediv]
    generalize n / M = q at *
    exact IntWalk.wrap64_in _ ⟨by omega, by omega⟩
  clear hM hM0
  have KEY : ∀ (cv : Nat) (cs : Pk.St), cv = (if decide (0 ≤ v ∧ v ≤ ((Pk.left s' / M : Nat) : Int)) then v.toNat else 0) → cs = (if decide (0 ≤ v ∧ v ≤ ((Pk.left s' / M : Nat) : Int)) then s' else none) →
      Calls Tryd.prog 27 #[.pointer (some ⟨x, 0, none⟩), .int .i64 m] w (XTakes x (.int .i64 (cv : Int)) cs w) := by
    intro cv cs hcv hcs
    have HCV := Lib.hid (And.intro hcv hcs)
    clear hcv hcs
    by_cases hm1 : m < 1
    all_goals
      first
        | (have hdm : decide (m < 1) = true := decide_eq_true hm1
           have e1 : (1 : Int) = M := HMM.out.1 hm1
           obtain rfl : M = 1 := by omega
           clear e1
           generalize hMM : (1 : Nat) = M' at HCV HW)
        | (have hdm : decide (m < 1) = false := decide_eq_false hm1
           obtain rfl : m = (M : Int) := HMM.out.2 hm1
           have hMM := hM1)
      clear HMM
      go_enter Tryd.func27, Tryd.ntmps27
      go_wp2_with fail
      refine HC.out.mono ?_
      rintro e w1 ⟨rfl, G1, G2⟩
      clear HC
      obtain ⟨a, c, B, at', hx⟩ := G1.out
      obtain ⟨c0, c1, c2, f0, f1, f2⟩ := hx.cells
      have hle := hx.le
      have hcl := hx.bytes.le
      have hcc := hx.bytes.len
      have HL := Lib.hid hx.left
      have HX := Lib.hid (fun nq => (hx.kept (Below.drewN' (Below.refl w1.heap.size w1) nq)).wrong)
      have HDN : Hid (∀ nq, Below w1.heap.size w1 (w1.drewN nq)) := Lib.hid fun nq => Below.drewN' (Below.refl _ _) nq
      have HSN := Lib.hid G1.out
      clear hx G1
      cases hs : s'.isNone
      case true =>
        rw [hs] at c2
        have HE : Hid (cv = 0 ∧ cs = none) := Lib.hid (by
          obtain rfl : s' = none := by simpa using hs
          have h0 := HZ.out rfl
          obtain ⟨h1, h2⟩ := HCV.out
          rw [h1, h2, h0]
          exact ⟨by split <;> rfl, by split <;> rfl⟩)
        obtain ⟨rfl, rfl⟩ := HE.out
        clear hs HE HCV HL HW hMM
        go_wp2_with fail
        go_quiet (fail)
        go_wp2_with fail
        go_ret
        exact ⟨rfl, Lib.hid (HX.out nq).1, Lib.hid (grownBy_trans_new (grownBy_trans_new G2.out (grown_of_below (HDN.out nq) _)) (HX.out nq).2)⟩
      case false =>
        rw [hs] at c2
        have hl := HL.out hs
        have hw := HW.out (B.length - at') (by omega)
        have hsub : ((B.length : Int) - (at' : Int)) = ((B.length - at' : Nat) : Int) := by omega
        rw [hl] at HCV
        clear hl HL hs HW HZ
        generalize (B.length - at') = L at *
        by_cases h0 : v < 0
        · have hd : decide (v < 0) = true := decide_eq_true h0
          have HE : Hid (cv = 0 ∧ cs = none) := Lib.hid (by
            obtain ⟨h1, h2⟩ := HCV.out
            rw [decide_eq_false (by omega)] at h1 h2
            exact ⟨h1, h2⟩)
          obtain ⟨rfl, rfl⟩ := HE.out
          clear HE HCV hMM hw
          go_wp2_with fail
          go_quiet (fail)
          go_wp2_with fail
          go_ret
          exact ⟨rfl, Lib.hid (HX.out nq).1, Lib.hid (grownBy_trans_new (grownBy_trans_new G2.out (grown_of_below (HDN.out nq) _)) (HX.out nq).2)⟩
        · have hd : decide (v < 0) = false := decide_eq_false h0
          first
            | (obtain ⟨q, hq⟩ : ∃ q : Nat, q = L / M' := ⟨_, rfl⟩
               rw [← hq] at HCV
               rw [← hMM, Nat.div_one] at hq
               subst hq
               clear hw hMM)
            | (obtain ⟨q, hq⟩ : ∃ q : Nat, q = L / M := ⟨_, rfl⟩
               rw [← hq] at HCV hw
               clear hq)
          rcases Int.lt_or_le (q : Int) v with hlt | hlt
          · have hdq : decide ((q : Int) < v) = true := decide_eq_true hlt
            have HE : Hid (cv = 0 ∧ cs = none) := Lib.hid (by
              obtain ⟨h1, h2⟩ := HCV.out
              rw [decide_eq_false (by omega)] at h1 h2
              exact ⟨h1, h2⟩)
            obtain ⟨rfl, rfl⟩ := HE.out
            clear HE HCV hlt
            go_wp2_with fail
            go_quiet (fail)
            go_wp2_with fail
            go_ret
            exact ⟨rfl, Lib.hid (HX.out nq).1, Lib.hid (grownBy_trans_new (grownBy_trans_new G2.out (grown_of_below (HDN.out nq) _)) (HX.out nq).2)⟩
          · have hdq : decide ((q : Int) < v) = false := decide_eq_false (by omega)
            have HE : Hid ((cv : Int) = v ∧ cs = s') := Lib.hid (by
              obtain ⟨h1, h2⟩ := HCV.out
              rw [decide_eq_true (by omega)] at h1 h2
              exact ⟨by rw [h1]; simp; omega, h2⟩)
            clear HCV hlt
            go_wp2_with fail
            go_quiet (fail)
            go_wp2_with fail
            go_ret
            exact ⟨by rw [HE.out.1]; rfl, Lib.hid (by rw [HE.out.2]; exact HSN.out.kept (HDN.out nq)), Lib.hid (grownBy_trans_new G2.out (grown_of_below (HDN.out nq) _))⟩
  exact KEY _ _ rfl rfl

theorem XTakesL.before {f : Nat → Value} {x : Nat} {bs : List Nat} {s : Pk.St} {w w1 : World} {e : Ending} {w' : World} (h : XTakesL f x bs s w1 e w') (hg : w.grownBy w1 (some x)) : XTakesL f x bs s w e w' := by
  obtain ⟨a, c, h1, h2, h3, h4, h5, h6⟩ := h
  exact ⟨a, c, h1, h2, h3, Lib.hid (fun j e => by have := h4.out j e; have := hg.size; omega), h5, Lib.hid (grownBy_trans_new hg h6.out)⟩
theorem xleft_le {w : World} {x : Nat} {s : Pk.St} (h : XSt w x s) : Pk.left s ≤ 140737488355328 := by
  obtain ⟨a, c, B, at', hx⟩ := h
  have h1 := hx.left
  have h2 := hx.bytes.le
  have h3 := hx.bytes.len
  cases s with
  | none => exact Nat.zero_le _
  | some r => have := h1 rfl; omega

set_option maxRecDepth 100000 in
set_option maxHeartbeats 800000 in
theorem XBytes_any {w : World} {x : Nat} {s : Pk.St} (h : XSt w x s) : Calls Tryd.prog 20 #[.pointer (some ⟨x, 0, none⟩)] w (XTakesL u8v x (Pk.bytesV s) (Pk.bytesN s) w) := by
  have HC := Lib.hid (XCount_any h (m := 1) ⟨by omega, by omega⟩)
  have hle := countV_le (m := 1) (s := s)
  unfold Pk.bytesV Pk.bytesN
  clear h
  generalize Pk.countV 1 s = n at *
  generalize Pk.countN 1 s = s' at *
  go_enter Tryd.func20, Tryd.ntmps20
  go_wp2_with fail
  refine HC.out.mono ?_
  rintro e w1 ⟨rfl, G1, G2⟩
  clear HC
  have hn : n ≤ 140737488355328 := by have := xleft_le G1.out; omega
  have HT := Lib.hid (xtake_any G1.out hn)
  go_wp2_with fail
  refine HT.out.mono ?_
  intro e w2 G3
  have G4 := Lib.hid (G3.before G2.out)
  obtain ⟨a, c, rfl, G5⟩ := G3
  clear G5 HT
  go_wp2_with fail
  go_ret
  exact G4.out
end Go.Proofs.YtodedlnpokagfaaDoor

