/- By program out of: RefInt, RatOfP. -/
import Derived.Test.YtpjeecahaeaajaaGreatDoorMmkloij
import Derived.ArgAppend
set_option linter.unusedVariables false
set_option linter.unusedSimpArgs false
namespace Go.Proofs.YtpjeecahaeaajaaGreatDoor
open Go.RowKit Rep
theorem set_take {l : List Value} {n : Nat} {v : Value} (h : n < l.length) : (l.set n v).take (n + 1) = l.take n ++ [v] := by
  apply List.ext_getElem?
  intro i
  rw [List.getElem?_take, List.getElem?_set]
  by_cases h1 : i < n
  · rw [List.getElem?_append_left (by rw [List.length_take]; omega), List.getElem?_take, if_pos (by omega), if_neg (by omega), if_pos h1]
  · by_cases h2 : i = n
    · subst h2
      rw [List.getElem?_append_right (by rw [List.length_take]; omega), List.length_take, Nat.min_eq_left (by omega)]
      simp [h]
    · rw [if_neg (by omega), List.getElem?_eq_none (by rw [List.length_append, List.length_take]; simp; omega)]
theorem Row.push {E : TypeId} {w : World} {g cap : Nat} {vs : List Value} (h : Row E w g cap vs) (hl : vs.length + 1 ≤ cap) (v : Value) : Row E (w.setCell ⟨g, vs.length, none⟩ v) g cap (vs ++ [v]) := by
  obtain ⟨cur, hh, hs, hle, ht⟩ := h
  refine ⟨cur.setIfInBounds vs.length v, ?_, by simp [hs], by simp; omega, ?_⟩
  · simp only [World.setCell, Array.getElem?_modify]
    simp [hh]
  · have hlt : vs.length < cur.toList.length := by simp only [Array.length_toList]; omega
    rw [Array.toList_setIfInBounds, List.length_append, List.length_singleton, set_take hlt, ht]
def qI (n : Int) : Rat := mkQ (decide (n < 0)) n.natAbs 1
theorem qI_parts (n : Int) : ngQ (qI n) = decide (n < 0) ∧ mgQ (qI n) = n.natAbs ∧ (qI n).den = 1 := by
  obtain ⟨a, b⟩ := mkQ_cop (decide (n < 0)) (n := n.natAbs) (d := 1) (by omega) (Nat.gcd_one_right _)
  refine ⟨?_, a, b⟩
  unfold qI
  rw [mkQ_ng _ _ (by omega)]
  split
  · rename_i h; rw [decide_eq_false (by omega)]
  · rfl
structure IntAt (w : World) (N : Nat) (neg : Bool) (k : Nat) (a : Option Addr) (c : Nat) (O : List Nat) (wr : World) : Prop where
  at' : wr.heap[w.heap.size + 1 + 1 + 1]? = some (.cells #[.bool neg, .slice a O.length c, .slice (some ⟨w.heap.size + 1 + 1, 0, none⟩) 1 1] 42 (0, 0))
  dig : D N = O ++ D k
  own : OwnR 3 i64v (w.heap.size + 1) wr a c O
  ne : blk a ≠ some (w.heap.size + 1 + 1 + 1)
  one : DAt wr (some ⟨w.heap.size + 1 + 1, 0, none⟩) 1 1
  ne1 : blk a ≠ some (w.heap.size + 1 + 1)
  below : Below w.heap.size w wr
  res : BlankD wr w.heap.size
theorem IntAt.start (w : World) (N : Nat) (neg : Bool) : IntAt w N neg N (some ⟨w.heap.size + 1, 0, none⟩) 0 []
    ((((w.alloc (.cells #[.bool false, .slice none 0 0, .slice none 0 0] 42)).alloc (.cells #[] 3)).alloc (.cells #[.int .i64 1] 3)).alloc (.cells #[.bool neg, .slice (some ⟨w.heap.size + 1, 0, none⟩) 0 0, .slice (some ⟨w.heap.size + 1 + 1, 0, none⟩) 1 1] 42)) := by
  refine ⟨?_, rfl, ⟨by simp [maxLen], .inr ⟨_, rfl, Nat.le_refl _, ?_⟩⟩, by simp [blk], ⟨?_, by decide, by simp [maxLen]⟩, by simp [blk], ?_, ?_⟩
  · have := heap_alloc_new (((w.alloc (.cells #[.bool false, .slice none 0 0, .slice none 0 0] 42)).alloc (.cells #[] 3)).alloc (.cells #[.int .i64 1] 3)) (.cells #[.bool neg, .slice (some ⟨w.heap.size + 1, 0, none⟩) 0 0, .slice (some ⟨w.heap.size + 1 + 1, 0, none⟩) 1 1] 42)
    simpa using this
  · have := ((Row.new (E := 3) (w.alloc (.cells #[.bool false, .slice none 0 0, .slice none 0 0] 42)) #[]).alloc (.cells #[.int .i64 1] 3)).alloc (.cells #[.bool neg, .slice (some ⟨w.heap.size + 1, 0, none⟩) 0 0, .slice (some ⟨w.heap.size + 1 + 1, 0, none⟩) 1 1] 42)
    simpa using this
  · have h := (Row.new (E := 3) ((w.alloc (.cells #[.bool false, .slice none 0 0, .slice none 0 0] 42)).alloc (.cells #[] 3)) #[.int .i64 1]).alloc (.cells #[.bool neg, .slice (some ⟨w.heap.size + 1, 0, none⟩) 0 0, .slice (some ⟨w.heap.size + 1 + 1, 0, none⟩) 1 1] 42)
    simpa [i64v, D_one] using h.reads0
  · exact ((((Below.refl _ _).alloc (Nat.le_refl _) _).alloc (by simp) _).alloc (by simp; omega) _).alloc (by simp; omega) _
  · unfold BlankD
    rw [Below.heap_alloc _ _ _ (by simp; omega), Below.heap_alloc _ _ _ (by simp; omega), Below.heap_alloc _ _ _ (by simp)]
    exact heap_alloc_new w _
theorem IntAt.next {w wr w' : World} {N k d k' c g' cap' : Nat} {neg : Bool} {a : Option Addr} {O : List Nat} {ob : Obj} (h : IntAt w N neg k a c O wr) (hk : 0 < k) (hd : d = k % 10) (hk' : k' = k / 10)
    (hrow : Row 3 w' g' cap' ((O ++ [d]).map i64v)) (hcap : cap' ≤ maxLen) (hgrow : (wr.alloc ob).grownBy w' (blk a)) (hg' : blk a = some g' ∨ (wr.alloc ob).heap.size ≤ g') :
    IntAt w N neg k' (some ⟨g', 0, none⟩) cap' (O ++ [d]) (w'.setCell ⟨w.heap.size + 1 + 1 + 1, 1, none⟩ (.slice (some ⟨g', 0, none⟩) (O.length + 1) cap')) ∧
    w'.cell? ⟨w.heap.size + 1 + 1 + 1, 1, none⟩ = some (.slice a O.length c) ∧ w'.frozen? ⟨w.heap.size + 1 + 1 + 1, 1, none⟩ = false := by
  have hlt : w.heap.size + 1 + 1 + 1 < wr.heap.size := (Array.getElem?_eq_some_iff.1 h.at').1
  have hba : Below wr.heap.size wr (wr.alloc ob) := (Below.refl _ _).alloc (Nat.le_refl _) _
  have h1 : w'.heap[w.heap.size + 1 + 1 + 1]? = some (.cells #[.bool neg, .slice a O.length c, .slice (some ⟨w.heap.size + 1 + 1, 0, none⟩) 1 1] 42 (0, 0)) :=
    (hgrow.block _ (by simp; omega) (Ne.symm h.ne)).trans ((hba.block _ hlt).trans h.at')
  have g1 : g' ≠ w.heap.size + 1 + 1 + 1 := by
    rcases hg' with e | e
    · intro h2; rw [h2] at e; exact h.ne e
    · simp at e; omega
  have g2 : g' ≠ w.heap.size + 1 + 1 := by
    rcases hg' with e | e
    · intro h2; rw [h2] at e; exact h.ne1 e
    · simp at e; omega
  have g3 : w.heap.size + 1 ≤ g' := by
    rcases hg' with e | e
    · exact h.own.blk_ge e
    · simp at e; omega
  have hs := grownBy_set (grown_refl w' (some (w.heap.size + 1 + 1 + 1))) (i := 1) (u := .slice (some ⟨g', 0, none⟩) (O.length + 1) cap')
  have hbl : blk a ≠ some w.heap.size := fun e => by have := h.own.blk_ge e; omega
  refine ⟨⟨?_, ?_, ⟨hcap, .inr ⟨g', rfl, g3, hrow.other _ _ (by simpa using g1)⟩⟩, by simpa [blk] using g1, ?_, by simpa [blk] using g2, ?_, ?_⟩, ?_, ?_⟩
  · simp [World.setCell, Array.getElem?_modify, h1]
  · rw [h.dig, D_cons hk, hd, hk', List.append_assoc]; rfl
  · refine ⟨?_, h.one.2⟩
    have r1 := (h.one.1.kept hba).grown hgrow (.inr fun g off e => by cases e; exact Ne.symm h.ne1)
    exact r1.grown hs (.inr fun g off e => by cases e; simp)
  · exact ((h.below.trans (hba.mono h.below.size)).grown hgrow (by simp; have := h.below.size; omega) (fun k hk => by have := h.own.blk_ge hk; omega)).setCell (by simp; omega) _
  · have r := h.res
    unfold BlankD at r ⊢
    rw [Below.heap_setCell _ _ _ _ (by simp; omega)]
    exact (hgrow.block _ (by simp; omega) (Ne.symm hbl)).trans ((hba.block _ (by omega)).trans r)
  · simp [World.cell?, h1]
  · simp [World.frozen?, h1]
theorem IntAt.ends {w wr : World} {N c : Nat} {neg : Bool} {a : Option Addr} {O : List Nat} (h : IntAt w N neg 0 a c O wr) :
    O.length = (D N).length ∧ GivesDR neg N 1 w (.returned (ratV neg (.slice a O.length c) (.slice (some ⟨w.heap.size + 1 + 1, 0, none⟩) 1 1))) (set3 wr w.heap.size neg (.slice a O.length c) (.slice (some ⟨w.heap.size + 1 + 1, 0, none⟩) 1 1)) := by
  have e : D N = O := by rw [h.dig, D_zero, List.append_nil]
  have hle := h.own.le
  have hat : DAt wr a c N := ⟨by rw [e]; exact h.own.reads, by rw [e]; exact hle, h.own.1⟩
  refine ⟨by rw [e], a, c, _, 1, by rw [e, D_one]; rfl, hat.set3 h.res _ _ _, h.one.set3 h.res _ _ _, set3_below h.below (Nat.le_refl _)⟩
end Go.Proofs.YtpjeecahaeaajaaGreatDoor

set_option linter.unusedVariables false
set_option linter.unusedSimpArgs false
namespace Go.Proofs.YtpjeecahaeaajaaGreatDoor
open Go.RowKit Rep
theorem denN_one : denN 1 = 0 := rfl
theorem fin_I {w W0 w' : World} {n : Int} {t : Bool} {a : Option Addr} {c : Nat} (hB0 : Below w.heap.size w W0) (b3 : Blank W0 w.heap.size) (ht : decide (n < 0) = t) (hd : NumAt w' a c n.natAbs) (hb : Below W0.heap.size W0 w') :
    NewQ (qI n) w (.returned (ratV t (.slice a (L n.natAbs).length c) (.slice none 0 0))) (set3 w' w.heap.size t (.slice a (L n.natAbs).length c) (.slice none 0 0)) := by
  obtain ⟨e1, e2, e3⟩ := qI_parts n
  have hat : AtQ w' a c none 0 (qI n) := ⟨by rw [e2]; exact hd, by rw [e3, denN_one]; exact NumAt.zero w'⟩
  refine ⟨a, c, none, 0, ?_, hat.set3 (b3.kept hb).rat _ _ _, set3_below (hB0.trans (hb.mono hB0.size)) (Nat.le_refl _)⟩
  unfold qV
  rw [e1, e2, e3, ht]
  rfl
set_option maxRecDepth 100000 in
set_option maxHeartbeats 2000000 in
theorem OfP_any (n : Int) (w : World) (h1 : -9223372036854775808 ≤ n) (h2 : n ≤ 9223372036854775807) : Calls Tryz.prog 21 #[.int .i64 n] w (NewQ (qI n) w) := by
  obtain ⟨W0, hW0⟩ : ∃ W0, W0 = w.alloc (.cells #[.bool false, .slice none 0 0, .slice none 0 0] 27) := ⟨_, rfl⟩
  have hB0 : Below w.heap.size w W0 := by rw [hW0]; exact (Below.refl _ _).alloc (Nat.le_refl _) _
  have hr0 : Blank W0 w.heap.size := by rw [hW0]; exact heap_alloc_new w _
  obtain ⟨N, hN⟩ : ∃ N : Nat, N = n.natAbs := ⟨_, rfl⟩
  have HO := Lib.hid (of_any N (by omega) W0)
  have HF : Hid (∀ t a c w', decide (n < 0) = t → NumAt w' a c N → Below W0.heap.size W0 w' → NewQ (qI n) w (.returned (ratV t (.slice a (L N).length c) (.slice none 0 0))) (set3 w' w.heap.size t (.slice a (L N).length c) (.slice none 0 0))) := Lib.hid fun t a c w' ht hd hb => by
    subst hN
    exact fin_I hB0 hr0 ht hd hb
  have HK : Hid (∀ w', Below W0.heap.size W0 w' → Blank w' w.heap.size) := Lib.hid fun w' h => hr0.kept h
  have HW0 := Lib.hid hW0
  clear hB0 hr0 hW0
  rcases Int.lt_or_le n 0 with hneg | hneg
  · have hd : decide (n < 0) = true := decide_eq_true hneg
    have HD := Lib.hid hd
    have hu : IntKind.u64.wrap (IntKind.i64.wrap (-n)) = (N : Int) := by
      rcases Int.lt_or_le (-9223372036854775808) n with h | h
      · rw [IntWalk.i64_in _ (by omega)]
        rw [IntWalk.u64_in _ (by omega)]
        omega
      · obtain rfl : n = -9223372036854775808 := by omega
        rw [hN]
        decide
    clear hN
    by_cases hmin : n = -9223372036854775808
    · subst hmin
      have hN2 : N = 9223372036854775808 := by have : ((9223372036854775808 : Int)) = (N : Int) := hu; omega
      subst hN2
      clear hu
      go_enter Tryz.func21, Tryz.ntmps21
      go_wp2_with fail
      rw [← HW0.out, show IntKind.u64.wrap (wrap64 9223372036854775808) = ((9223372036854775808 : Nat) : Int) by kernel_rfl]
      refine HO.out.mono ?_
      rintro e w2 ⟨a, c, rfl, hd2, hb2⟩
      obtain ⟨m0, m1, m2, n0, n1, n2⟩ := (HK.out _ hb2).cells
      have HE := Lib.hid (HF.out true a c w2 HD.out hd2 hb2)
      clear hd2 hb2 HO HF HK HW0
      generalize (L 9223372036854775808).length = len at *
      go_wp2_with fail
      exact bodyPost_ret (v := ratV true (.slice a len c) (.slice none 0 0)) (by simp [results, Tryz.results21, go_sem, ratV, m0, m1, m2]) rfl HE.out
    · have hw : -n = (N : Int) := by
        rw [IntWalk.i64_in _ (by omega), IntWalk.u64_in _ (by omega)] at hu
        exact hu
      have hNb : N ≤ 9223372036854775807 := by omega
      clear hu hmin
      go_enter Tryz.func21, Tryz.ntmps21
      go_wp2_with fail
      rw [← HW0.out]
      refine HO.out.mono ?_
      rintro e w2 ⟨a, c, rfl, hd2, hb2⟩
      obtain ⟨m0, m1, m2, n0, n1, n2⟩ := (HK.out _ hb2).cells
      have HE := Lib.hid (HF.out true a c w2 HD.out hd2 hb2)
      clear hd2 hb2 HO HF HK HW0
      generalize (L N).length = len at *
      go_wp2_with fail
      exact bodyPost_ret (v := ratV true (.slice a len c) (.slice none 0 0)) (by simp [results, Tryz.results21, go_sem, ratV, m0, m1, m2]) rfl HE.out
  · have hd : decide (n < 0) = false := decide_eq_false (by omega)
    have HD := Lib.hid hd
    obtain rfl : n = (N : Int) := by omega
    have hNb : N ≤ 9223372036854775807 := by omega
    clear hN
    go_enter Tryz.func21, Tryz.ntmps21
    go_wp2_with fail
    rw [← HW0.out]
    refine HO.out.mono ?_
    rintro e w2 ⟨a, c, rfl, hd2, hb2⟩
    obtain ⟨m0, m1, m2, n0, n1, n2⟩ := (HK.out _ hb2).cells
    have HE := Lib.hid (HF.out false a c w2 HD.out hd2 hb2)
    clear hd2 hb2 HO HF HK HW0
    generalize (L N).length = len at *
    go_wp2_with fail
    exact bodyPost_ret (v := ratV false (.slice a len c) (.slice none 0 0)) (by simp [results, Tryz.results21, go_sem, ratV, m0, m1, m2]) rfl HE.out
end Go.Proofs.YtpjeecahaeaajaaGreatDoor
