/-
  Layer 9: isSorted, isLinear, isGround.
-/
import Derived.Test.YtmiocohlklnglaaDoorTmSmall
import Derived.Test.YtmiocohlklnglaaDoorTmReg
set_option linter.unusedVariables false
set_option linter.unusedSimpArgs false
namespace Go.Proofs.YtmiocohlklnglaaDoor
open Go.RowKit Tm

section
variable {w w' : World} {B R mo mg : Nat} {kv : Value} {g : Ru}
set_option maxRecDepth 100000 in
set_option maxHeartbeats 4000000 in
theorem sorted_any (h : RuAt w B R mo mg kv g) {a : Option Addr} {kids : List Int} {c : Nat} (hk : KAt w a kids c) (o : Opr) :
    Calls Tryd.prog 25 #[.pointer (some ⟨R, 0, none⟩), .slice a kids.length c, .agg #[.int .i64 o.least, .int .i64 o.most, .int .i64 o.first, .int .i64 o.others, .int .i64 o.sort]] w (GivesV (.bool (sorted g.ks kids o)) w) := by
  obtain ⟨W2, hW2⟩ : ∃ W2, W2 = w.alloc (.cells #[.int .i64 o.least, .int .i64 o.most, .int .i64 o.first, .int .i64 o.others, .int .i64 o.sort] 62) := ⟨_, rfl⟩
  have hb2 : Below w.heap.size w W2 := by rw [hW2]; exact (Below.refl _ _).alloc (Nat.le_refl _) _
  have hr2 : W2.rangeAt w.heap.size 0 [.int .i64 o.least, .int .i64 o.most, .int .i64 o.first, .int .i64 o.others, .int .i64 o.sort] := by rw [hW2]; exact rangeAt_new w [.int .i64 o.least, .int .i64 o.most, .int .i64 o.first, .int .i64 o.others, .int .i64 o.sort] 62
  have HRU := Lib.hid (h.kept hb2)
  have HKK := Lib.hid (hk.kept hb2)
  have HB2 := Lib.hid (And.intro hb2 hr2)
  obtain ⟨n, hn⟩ : ∃ n, kids.length = n := ⟨_, rfl⟩
  have HN := Lib.hid hn
  have hn6 : n ≤ 1000000 := by have := hk.few; omega
  have HO : Hid (∀ k, kidSort o k = kidSort o k) := Lib.hid fun _ => rfl
  rw [hn]
  clear h hk hb2 hr2 hn
  have HSO : Hid (∀ (W : World) (i : Nat), Calls Tryd.prog 34 #[.agg #[.int .i64 o.least, .int .i64 o.most, .int .i64 o.first, .int .i64 o.others, .int .i64 o.sort], .int .i64 (i : Int)] W (GivesV (.int .i64 (kidSort o i)) W)) := Lib.hid fun W i => kidSort_any W o i
  have HST : Hid ((∀ k, k < n → fits g.ks kids o k = false → sorted g.ks kids o = false) ∧ ((List.range n).all (fits g.ks kids o) = true → sorted g.ks kids o = true)) := Lib.hid ⟨fun k hk hf => by unfold sorted; exact all_range_stop (by rw [HN.out]; exact hk) hf, fun hh => by unfold sorted; rw [HN.out]; exact hh⟩
  have HFT : Hid (∀ k x, kids.getD k 0 = x → fits g.ks kids o k = decide ((kindOf g.ks x).1 = sortOver g.ks kids (kidSort o k))) := Lib.hid fun k x hx => by unfold fits; rw [hx]
  generalize sorted g.ks kids o = res at *
  obtain ⟨ft, hft⟩ : ∃ ft, fits g.ks kids o = ft := ⟨_, rfl⟩
  rw [hft] at HST HFT
  obtain ⟨ksf, hksf⟩ : ∃ ksf : Nat → Int, (fun k => kidSort o k) = ksf := ⟨_, rfl⟩
  have hks : ∀ k, kidSort o k = ksf k := fun k => congrFun hksf k
  simp only [hks] at HSO HFT
  clear hft hks hksf HO
  obtain ⟨o1, o2, o3, o4, o5⟩ := o
  dsimp only at HSO HB2 hW2 ⊢
  go_enter Tryd.func25, Tryd.ntmps25
  go_wp2_with fail
  rw [← hW2]
  clear hW2
  go_loopw [11] (fun (iv : Value) (wr : World) => ∃ (k : Nat), iv = .int .i64 (k : Int) ∧ k ≤ n ∧ Hid ((List.range k).all ft = true) ∧ Hid (Below W2.heap.size W2 wr)) (fun iv _ => n - (intOf iv).toNat)
  case atStart => exact ⟨0, rfl, Nat.zero_le _, Lib.hid rfl, Lib.hid (Below.refl _ _)⟩
  case round =>
    obtain ⟨k, rfl, hkn, HE, HB⟩ := hrel
    by_cases hlt : k < n
    · have hget : kids[k]? = some (kids.getD k 0) := by rw [List.getD_eq_getElem?_getD, List.getElem?_eq_getElem (by rw [HN.out]; exact hlt)]; rfl
      obtain ⟨bb, off, rfl, hc⟩ := (HKK.out.kept HB.out).get hget
      clear hget
      obtain ⟨x, hx⟩ : ∃ x, kids.getD k 0 = x := ⟨_, rfl⟩
      have hfit := HFT.out k x hx
      rw [hx] at hc
      clear hx
      obtain ⟨s0, hs0⟩ : ∃ s0, ksf k = s0 := ⟨_, rfl⟩
      have HS0 := Lib.hid (fun W => HSO.out W k)
      rw [hs0] at HS0 hfit
      have HC1 : Hid (∀ W, Below W2.heap.size W2 W → Calls Tryd.prog 17 #[.pointer (some ⟨R, 0, none⟩), .int .i64 x] W (GivesV (.agg #[.int .i64 (kindOf g.ks x).1, .bool (kindOf g.ks x).2]) W)) := Lib.hid fun W hW => kind_any (HRU.out.kept hW) x
      have HC3 : Hid (∀ W, Below W2.heap.size W2 W → Calls Tryd.prog 27 #[.pointer (some ⟨R, 0, none⟩), .slice (some ⟨bb, off, none⟩) n c, .int .i64 s0] W (GivesV (.int .i64 (sortOver g.ks kids s0)) W)) := Lib.hid fun W hW => by
        have := sortOver_any (HRU.out.kept hW) (HKK.out.kept hW) s0 (fun _ e => by have := HN.out; rw [e] at this; simp at this; omega)
        rw [HN.out] at this
        exact this
      generalize sortOver g.ks kids s0 = t0 at *
      generalize kindOf g.ks x = q at *
      obtain ⟨q1, q2⟩ := q
      dsimp only at HC1 hfit
      have HF := Lib.hid hfit
      have hfs := field_sort
      have HR : Hid (wr.drew.rangeAt w.heap.size 0 [.int .i64 o1, .int .i64 o2, .int .i64 o3, .int .i64 o4, .int .i64 o5]) := Lib.hid fun j u hu => (HB.out.drew.cell (p := ⟨w.heap.size, 0 + j, none⟩) (World.block_lt_of_cell? _ _ (HB2.out.2 j u hu))).trans (HB2.out.2 j u hu)
      have HBD := Lib.hid HB.out.drew
      have hki : (k : Int) < (n : Int) := by omega
      have hiw : wrap64 ((k : Int) + 1) = (k : Int) + 1 := IntWalk.wrap64_in _ (by omega)
      clear hfit hs0
      go_wp2_with fail
      refine wp_region_held_drew (S := (fun w' => w'.rangeAt w.heap.size 0 [.int .i64 o1, .int .i64 o2, .int .i64 o3, .int .i64 o4, .int .i64 o5])) (by kernel_rfl) ?_ (fun hHeld => ?_)
      · exact HR.out
      refine wpAnyH_take (i := 0) (v := ?_) (by rfl) (by kernel_rfl) (by kernel_rfl) (by kernel_rfl) (by exact fun _ _ _ h => h) (Or.inl ⟨by rfl, ?_⟩) hHeld ?_
      rotate_left 1
      · intro w' hSw
        (try dsimp only at hSw)
        go_simp
        try with_reducible rfl
      try simp only [Act.put, List.setIfInBounds_toArray, List.set_cons_zero, List.set_cons_succ, List.getElem_toArray, List.getElem_cons_zero, List.getElem_cons_succ]
      refine wpAnyH_take (i := 1) (v := ?_) (by rfl) (by kernel_rfl) (by kernel_rfl) (by kernel_rfl) (by exact fun _ _ _ h => h) (Or.inl ⟨by rfl, ?_⟩) hHeld ?_
      rotate_left 1
      · intro w' hSw
        (try dsimp only at hSw)
        go_simp
        try with_reducible rfl
      try simp only [Act.put, List.setIfInBounds_toArray, List.set_cons_zero, List.set_cons_succ, List.getElem_toArray, List.getElem_cons_zero, List.getElem_cons_succ]
      refine wpAnyH_take (i := 4) (v := ?_) (by rfl) (by kernel_rfl) (by kernel_rfl) (by kernel_rfl) (by exact fun _ _ _ h => h) (Or.inl ⟨by rfl, ?_⟩) hHeld ?_
      rotate_left 1
      · intro w' hSw
        (try dsimp only at hSw)
        go_simp
        try with_reducible rfl
      try simp only [Act.put, List.setIfInBounds_toArray, List.set_cons_zero, List.set_cons_succ, List.getElem_toArray, List.getElem_cons_zero, List.getElem_cons_succ]
      refine wpAnyH_take (i := 5) (v := ?_) (by rfl) (by kernel_rfl) (by kernel_rfl) (by kernel_rfl) (by exact fun _ _ _ h => h) (Or.inl ⟨by rfl, ?_⟩) hHeld ?_
      rotate_left 1
      · intro w' hSw
        (try dsimp only at hSw)
        go_simp
        try with_reducible rfl
      try simp only [Act.put, List.setIfInBounds_toArray, List.set_cons_zero, List.set_cons_succ, List.getElem_toArray, List.getElem_cons_zero, List.getElem_cons_succ]
      refine wpAnyH_take (i := 6) (v := .agg #[.int .i64 o1, .int .i64 o2, .int .i64 o3, .int .i64 o4, .int .i64 o5]) (by rfl) (by kernel_rfl) (by kernel_rfl) (by kernel_rfl) (by exact fun _ _ _ h => h) (Or.inl ⟨by rfl, ?_⟩) hHeld ?_
      · intro w' hSw
        exact run_load_op 62 (.tmp 5) rfl w.heap.size 0 rfl [.int .i64 o1, .int .i64 o2, .int .i64 o3, .int .i64 o4, .int .i64 o5] _ hSw Tryd.underlying62 rfl (by rw [size_opr]; rfl)
      try simp only [Act.put, List.setIfInBounds_toArray, List.set_cons_zero, List.set_cons_succ, List.getElem_toArray, List.getElem_cons_zero, List.getElem_cons_succ]
      refine wpAnyH_take (i := 7) (v := ?_) (by rfl) (by kernel_rfl) (by kernel_rfl) (by kernel_rfl) (by exact fun _ _ _ h => h) (Or.inl ⟨by rfl, ?_⟩) hHeld ?_
      rotate_left 1
      · intro w' hSw
        (try dsimp only at hSw)
        go_simp
        try with_reducible rfl
      try simp only [Act.put, List.setIfInBounds_toArray, List.set_cons_zero, List.set_cons_succ, List.getElem_toArray, List.getElem_cons_zero, List.getElem_cons_succ]
      refine wpAnyH_ready (rs := [2]) (by kernel_rfl) (by simp) ?_
      refine AllReadyH.cons (by rfl) (fun K hK => ?_) AllReadyH.nil
      go_simp
      refine (HC1.out _ HBD.out).mono ?_
      rintro e w5 ⟨rfl, hb5⟩
      have HB5 := Lib.hid (HBD.out.trans (hb5.mono HBD.out.size))
      have HR5 : Hid (w5.rangeAt w.heap.size 0 [.int .i64 o1, .int .i64 o2, .int .i64 o3, .int .i64 o4, .int .i64 o5]) := Lib.hid (by exact fun j u hu => (hb5.cell (p := ⟨w.heap.size, 0 + j, none⟩) (World.block_lt_of_cell? _ _ (HR.out j u hu))).trans (HR.out j u hu))
      clear hb5
      refine hK.out _ _ ?_ (fun hHeld => ?_)
      · exact HR5.out
      clear hK K
      try simp only [Act.put, List.setIfInBounds_toArray, List.set_cons_zero, List.set_cons_succ, List.getElem_toArray, List.getElem_cons_zero, List.getElem_cons_succ]
      refine wpAnyH_take (i := 3) (v := ?_) (by rfl) (by kernel_rfl) (by kernel_rfl) (by kernel_rfl) (by exact fun _ _ _ h => h) (Or.inl ⟨by rfl, ?_⟩) hHeld ?_
      rotate_left 1
      · intro w' hSw
        (try dsimp only at hSw)
        go_simp
        try with_reducible rfl
      try simp only [Act.put, List.setIfInBounds_toArray, List.set_cons_zero, List.set_cons_succ, List.getElem_toArray, List.getElem_cons_zero, List.getElem_cons_succ]
      refine wpAnyH_ready (rs := [8]) (by kernel_rfl) (by simp) ?_
      refine AllReadyH.cons (by rfl) (fun K hK => ?_) AllReadyH.nil
      go_simp
      refine (HS0.out _).mono ?_
      rintro e w6 ⟨rfl, hb6⟩
      have HB6 := Lib.hid (HB5.out.trans (hb6.mono HB5.out.size))
      have HR6 : Hid (w6.rangeAt w.heap.size 0 [.int .i64 o1, .int .i64 o2, .int .i64 o3, .int .i64 o4, .int .i64 o5]) := Lib.hid (by exact fun j u hu => (hb6.cell (p := ⟨w.heap.size, 0 + j, none⟩) (World.block_lt_of_cell? _ _ (HR5.out j u hu))).trans (HR5.out j u hu))
      clear hb6
      refine hK.out _ _ ?_ (fun hHeld => ?_)
      · exact HR6.out
      clear hK K
      try simp only [Act.put, List.setIfInBounds_toArray, List.set_cons_zero, List.set_cons_succ, List.getElem_toArray, List.getElem_cons_zero, List.getElem_cons_succ]
      refine wpAnyH_ready (rs := [9]) (by kernel_rfl) (by simp) ?_
      refine AllReadyH.cons (by rfl) (fun K hK => ?_) AllReadyH.nil
      go_simp
      refine (HC3.out _ HB6.out).mono ?_
      rintro e w7 ⟨rfl, hb7⟩
      have HB7 := Lib.hid (HB6.out.trans (hb7.mono HB6.out.size))
      have HR7 : Hid (w7.rangeAt w.heap.size 0 [.int .i64 o1, .int .i64 o2, .int .i64 o3, .int .i64 o4, .int .i64 o5]) := Lib.hid (by exact fun j u hu => (hb7.cell (p := ⟨w.heap.size, 0 + j, none⟩) (World.block_lt_of_cell? _ _ (HR6.out j u hu))).trans (HR6.out j u hu))
      clear hb7
      refine hK.out _ _ ?_ (fun hHeld => ?_)
      · exact HR7.out
      clear hK K
      try simp only [Act.put, List.setIfInBounds_toArray, List.set_cons_zero, List.set_cons_succ, List.getElem_toArray, List.getElem_cons_zero, List.getElem_cons_succ]
      refine wpAnyH_take (i := 10) (v := ?_) (by rfl) (by kernel_rfl) (by kernel_rfl) (by kernel_rfl) (by exact fun _ _ _ h => h) (Or.inl ⟨by rfl, ?_⟩) hHeld ?_
      rotate_left 1
      · intro w' hSw
        (try dsimp only at hSw)
        go_simp
        try with_reducible rfl
      try simp only [Act.put, List.setIfInBounds_toArray, List.set_cons_zero, List.set_cons_succ, List.getElem_toArray, List.getElem_cons_zero, List.getElem_cons_succ]
      refine wpAnyH_done (by kernel_rfl) ?_ _
      clear hHeld
      cases hqt : (q1 == t0) with
      | true =>
        have HNX : Hid ((List.range (k + 1)).all ft = true) := Lib.hid (by rw [all_range_succ, HE.out, HF.out, decide_eq_true (show q1 = t0 by simpa using hqt)]; rfl)
        clear HC1 HC3 HS0
        go_wp2_with fail
        go_roundw
        case rel => exact ⟨k + 1, by go_num, by omega, HNX, HB7⟩
        case measure => simp [intOf]; omega
      | false =>
        have HV := Lib.hid (HST.out.1 k hlt (by rw [HF.out]; exact decide_eq_false (show ¬ q1 = t0 by simpa using hqt)))
        have HEND := Lib.hid (HB2.out.1.trans (HB7.out.mono HB2.out.1.size))
        clear HC1 HC3 HS0
        go_wp2_with fail
        go_ret
        exact GivesV.mk' (by rw [HV.out]; rfl) HEND.out
    · obtain rfl : k = n := by omega
      have HV := Lib.hid (HST.out.2 HE.out)
      have HEND := Lib.hid (HB2.out.1.trans (HB.out.mono HB2.out.1.size))
      go_wp2_with fail
      go_ret
      exact GivesV.mk' (by rw [HV.out]; rfl) HEND.out
end
end Go.Proofs.YtmiocohlklnglaaDoor
