/-
  Layer 9: the small calls.
-/
import Derived.Test.YtmiocohlklnglaaDoorTmMem
set_option linter.unusedVariables false
set_option linter.unusedSimpArgs false
namespace Go.Proofs.YtmiocohlklnglaaDoor
open Go.RowKit Tm

section
variable {w w' : World} {B R mo mg : Nat} {kv : Value} {g : Ru}
set_option maxRecDepth 100000 in
theorem loose_any (h : RuAt w B R mo mg kv g) (x : Int) : Calls Tryd.prog 35 #[.pointer (some ⟨R, 0, none⟩), .int .i64 x] w (GivesV (.bool (loose g.ks x)) w) := by
  have HK := Lib.hid (kind_any h x)
  unfold loose
  generalize kindOf g.ks x = q at *
  obtain ⟨q1, q2⟩ := q
  dsimp only at HK ⊢
  have hfg := field_ground
  clear h
  go_enter Tryd.func35, Tryd.ntmps35
  go_wp2_with fail
  refine HK.out.mono ?_
  rintro e w' ⟨rfl, hb⟩
  have HB := Lib.hid hb
  clear hb
  go_wp2_with fail
  go_ret
  exact GivesV.mk' rfl HB.out
theorem far_any (h : RuAt w B R mo mg kv g) {b : Nat} (hb : w.cell? ⟨b, 0, none⟩ = some (.pointer (some ⟨R, 0, none⟩))) (x : Int) : Calls Tryd.prog 22 #[.int .i64 x, .pointer (some ⟨b, 0, none⟩)] w (GivesV (.bool (!has g.ks x)) w) := by
  have HK := Lib.hid (has_any h x)
  generalize has g.ks x = q at *
  clear h
  go_enter Tryd.func22, Tryd.ntmps22
  go_wp2_with fail
  refine HK.out.mono ?_
  rintro e w' ⟨rfl, rfl⟩
  go_wp2_with fail
  go_ret
  exact GivesV.mk' rfl (Below.refl _ _)
theorem kidSort_any (w : World) (o : Opr) (i : Nat) : Calls Tryd.prog 34 #[.agg #[.int .i64 o.least, .int .i64 o.most, .int .i64 o.first, .int .i64 o.others, .int .i64 o.sort], .int .i64 (i : Int)] w (GivesV (.int .i64 (kidSort o i)) w) := by
  obtain ⟨o1, o2, o3, o4, o5⟩ := o
  unfold kidSort
  by_cases hi : i = 0
  · subst hi
    rw [if_pos rfl]
    go_enter Tryd.func34, Tryd.ntmps34
    go_wp2_with fail
    go_ret
    exact GivesV.mk' rfl ((Below.refl _ _).alloc (Nat.le_refl _) _)
  · rw [if_neg hi]
    have hi' : ((i : Int) == 0) = false := by simpa using hi
    clear hi
    go_enter Tryd.func34, Tryd.ntmps34
    go_wp2_with fail
    go_ret
    exact GivesV.mk' rfl ((Below.refl _ _).alloc (Nat.le_refl _) _)
theorem counts_any (w : World) (o : Opr) (n : Nat) : Calls Tryd.prog 24 #[.agg #[.int .i64 o.least, .int .i64 o.most, .int .i64 o.first, .int .i64 o.others, .int .i64 o.sort], .int .i64 (n : Int)] w (GivesV (.bool (counts o n)) w) := by
  obtain ⟨o1, o2, o3, o4, o5⟩ := o
  unfold counts
  dsimp only
  cases h1 : decide (o1 ≤ (n : Int)) with
  | false =>
    go_enter Tryd.func24, Tryd.ntmps24
    go_wp2_with fail
    go_ret
    exact GivesV.mk' rfl ((Below.refl _ _).alloc (Nat.le_refl _) _)
  | true =>
    cases h2 : decide ((n : Int) ≤ o2) with
    | false =>
      go_enter Tryd.func24, Tryd.ntmps24
      go_wp2_with fail
      go_ret
      exact GivesV.mk' rfl ((Below.refl _ _).alloc (Nat.le_refl _) _)
    | true =>
      go_enter Tryd.func24, Tryd.ntmps24
      go_wp2_with fail
      go_ret
      exact GivesV.mk' rfl ((Below.refl _ _).alloc (Nat.le_refl _) _)
theorem isZero_any (w : World) (s : Bool) (a1 : Option Addr) (l1 c1 : Nat) (a2 : Option Addr) (l2 c2 : Nat) :
    Calls Tryd.prog 31 #[.agg #[.bool s, .slice a1 l1 c1, .slice a2 l2 c2]] w (GivesV (.bool (!s && decide (l1 = 0) && decide (l2 = 0))) w) := by
  cases s with
  | true =>
    go_enter Tryd.func31, Tryd.ntmps31
    go_wp2_with fail
    go_ret
    exact GivesV.mk' rfl ((Below.refl _ _).alloc (Nat.le_refl _) _)
  | false =>
    by_cases h1 : l1 = 0
    · subst h1
      by_cases h2 : l2 = 0
      · subst h2
        go_enter Tryd.func31, Tryd.ntmps31
        go_wp2_with fail
        go_ret
        exact GivesV.mk' rfl ((Below.refl _ _).alloc (Nat.le_refl _) _)
      · have h2' : ((l2 : Int) == 0) = false := by simpa using h2
        have h2'' : decide (l2 = 0) = false := by simpa using h2
        rw [h2'']
        clear h2 h2''
        go_enter Tryd.func31, Tryd.ntmps31
        go_wp2_with fail
        go_ret
        exact GivesV.mk' rfl ((Below.refl _ _).alloc (Nat.le_refl _) _)
    · have h1' : ((l1 : Int) == 0) = false := by simpa using h1
      have h1'' : decide (l1 = 0) = false := by simpa using h1
      rw [h1'']
      clear h1 h1''
      go_enter Tryd.func31, Tryd.ntmps31
      go_wp2_with fail
      go_ret
      exact GivesV.mk' rfl ((Below.refl _ _).alloc (Nat.le_refl _) _)
set_option maxRecDepth 100000 in
theorem sortOver_any (h : RuAt w B R mo mg kv g) {a : Option Addr} {kids : List Int} {c : Nat} (hk : KAt w a kids c) (s : Int) (hs : s = 0 → kids ≠ []) :
    Calls Tryd.prog 27 #[.pointer (some ⟨R, 0, none⟩), .slice a kids.length c, .int .i64 s] w (GivesV (.int .i64 (sortOver g.ks kids s)) w) := by
  unfold sortOver
  by_cases h0 : s = 0
  · subst h0
    rw [if_pos rfl]
    have hne : 0 < kids.length := List.length_pos_iff.2 (hs rfl)
    have hl : kids[kids.length - 1]? = some (lastOf kids) := by unfold lastOf; rw [List.getD_eq_getElem?_getD, List.getElem?_eq_getElem (by omega)]; rfl
    obtain ⟨b, off, rfl, hc⟩ := hk.get hl
    have HK := Lib.hid (kind_any h (lastOf kids))
    generalize lastOf kids = x at *
    obtain ⟨m, hm⟩ : ∃ m, kids.length = m + 1 := ⟨kids.length - 1, by omega⟩
    have hcap := hk.cap
    have hcp := hk.few
    rw [hm] at hc hcap hcp ⊢
    rw [show m + 1 - 1 = m by omega] at hc
    generalize kindOf g.ks x = q at *
    obtain ⟨q1, q2⟩ := q
    dsimp only at HK ⊢
    have hfs := field_sort
    have hsub : wrap64 (m : Int) = (m : Int) := IntWalk.wrap64_in _ (by omega)
    have hlt : (m : Int) < (m : Int) + 1 := by omega
    clear h hk hs hne hl hm hcap hcp
    go_enter Tryd.func27, Tryd.ntmps27
    go_wp2_with fail
    refine HK.out.mono ?_
    rintro e w' ⟨rfl, hb⟩
    have HB := Lib.hid hb
    clear hb
    go_wp2_with fail
    go_ret
    exact GivesV.mk' rfl HB.out
  · rw [if_neg h0]
    have h0' : (s == 0) = false := by simpa using h0
    clear h0 h hs hk
    go_enter Tryd.func27, Tryd.ntmps27
    go_wp2_with fail
    go_ret
    exact GivesV.mk' rfl (Below.refl _ _)
end
/-! ### Kids that are looked for -/

section
variable {w : World} {p : Int → Bool} {b : Nat}
set_option maxRecDepth 100000 in
set_option maxHeartbeats 2000000 in
theorem index_loose (hp : ∀ W, Below w.heap.size w W → ∀ x, Calls Tryd.prog 35 #[.pointer (some ⟨b, 0, none⟩), .int .i64 x] W (GivesV (.bool (p x)) W)) {a : Option Addr} {kids : List Int} {c : Nat} (hk : KAt w a kids c) :
    Calls Tryd.prog 33 #[.slice a kids.length c, .func (.func 35) #[.pointer (some ⟨b, 0, none⟩)] #[]] w (GivesV (.int .i64 (idxP p kids)) w) := by
  have HP := Lib.hid hp
  have HKK := Lib.hid hk
  obtain ⟨n, hn⟩ : ∃ n, kids.length = n := ⟨_, rfl⟩
  have HN := Lib.hid hn
  have hn6 : n ≤ 1000000 := by have := hk.few; omega
  rw [hn]
  clear hp hk hn
  go_enter Tryd.func33, Tryd.ntmps33
  go_wp2_with fail
  go_loopw [8] (fun (iv : Value) (wr : World) => ∃ k : Nat, k ≤ n ∧ iv = .int .i64 (k : Int) ∧ Hid (∀ y ∈ kids.take k, p y = false) ∧ Hid (Below w.heap.size w wr)) (fun iv _ => n - (intOf iv).toNat)
  case atStart => exact ⟨0, Nat.zero_le _, rfl, Lib.hid (by simp), Lib.hid (Below.refl _ _)⟩
  case round =>
    obtain ⟨k, hkn, rfl, HE, HB⟩ := hrel
    by_cases hlt : k < n
    · have hget : kids[k]? = some (kids.getD k 0) := by rw [List.getD_eq_getElem?_getD, List.getElem?_eq_getElem (by rw [HN.out]; exact hlt)]; rfl
      have HG := Lib.hid hget
      obtain ⟨bb, off, rfl, hc⟩ := (HKK.out.kept HB.out).get hget
      clear hget
      generalize kids.getD k 0 = x at *
      have HC := Lib.hid (HP.out wr HB.out x)
      have hki : (k : Int) < (n : Int) := by omega
      have hiw : wrap64 ((k : Int) + 1) = (k : Int) + 1 := IntWalk.wrap64_in _ (by omega)
      cases hq : p x with
      | true =>
        have HV := Lib.hid (idxP_at (p := p) HE.out HG.out hq)
        rw [hq] at HC
        clear hq
        go_wp2_with fail
        refine HC.out.mono ?_
        rintro e w2 ⟨rfl, hb2⟩
        have HB2 := Lib.hid (HB.out.trans (hb2.mono HB.out.size))
        clear hb2
        go_wp2_with fail
        go_ret
        exact GivesV.mk' (by rw [HV.out]; rfl) HB2.out
      | false =>
        have HV : Hid (∀ y ∈ kids.take (k + 1), p y = false) := Lib.hid (by
          have hk2 : k < kids.length := by rw [HN.out]; exact hlt
          have hx : kids[k] = x := by have := HG.out; rw [List.getElem?_eq_getElem hk2] at this; exact Option.some.inj this
          rw [List.take_succ_eq_append_getElem hk2, hx]
          intro y hy
          rcases List.mem_append.1 hy with hy | hy
          · exact HE.out y hy
          · have : y = x := by simpa using hy
            rw [this]; exact hq)
        rw [hq] at HC
        clear hq
        go_wp2_with fail
        refine HC.out.mono ?_
        rintro e w2 ⟨rfl, hb2⟩
        have HB2 := Lib.hid (HB.out.trans (hb2.mono HB.out.size))
        clear hb2
        go_wp2_with fail
        go_roundw
        case rel => exact ⟨k + 1, by omega, by go_num, HV, HB2⟩
        case measure => simp [intOf]; omega
    · obtain rfl : k = n := by omega
      have HV : Hid (idxP p kids = -1) := Lib.hid (idxP_none (by have := HE.out; rw [List.take_of_length_le (by rw [HN.out]; exact Nat.le_refl _)] at this; exact this))
      go_wp2_with fail
      go_ret
      exact GivesV.mk' (by rw [HV.out]; rfl) HB.out
theorem contains_loose (hp : ∀ W, Below w.heap.size w W → ∀ x, Calls Tryd.prog 35 #[.pointer (some ⟨b, 0, none⟩), .int .i64 x] W (GivesV (.bool (p x)) W)) {a : Option Addr} {kids : List Int} {c : Nat} (hk : KAt w a kids c) :
    Calls Tryd.prog 21 #[.slice a kids.length c, .func (.func 35) #[.pointer (some ⟨b, 0, none⟩)] #[]] w (GivesV (.bool (kids.any p)) w) := by
  have HI := Lib.hid (index_loose hp hk)
  have he := idxP_any p kids
  rw [← he]
  generalize idxP p kids = x at *
  clear hp hk he
  go_enter Tryd.func21, Tryd.ntmps21
  go_wp2_with fail
  refine HI.out.mono ?_
  rintro e w' ⟨rfl, hb⟩
  have HB := Lib.hid hb
  clear hb
  go_wp2_with fail
  go_ret
  exact GivesV.mk' rfl HB.out
end

section
variable {w : World} {p : Int → Bool} {b : Nat}
set_option maxRecDepth 100000 in
set_option maxHeartbeats 2000000 in
theorem index_far (hp : ∀ W, Below w.heap.size w W → ∀ x, Calls Tryd.prog 22 #[.int .i64 x, .pointer (some ⟨b, 0, none⟩)] W (GivesV (.bool (p x)) W)) {a : Option Addr} {kids : List Int} {c : Nat} (hk : KAt w a kids c) :
    Calls Tryd.prog 33 #[.slice a kids.length c, .func (.func 22) #[] #[.pointer (some ⟨b, 0, none⟩)]] w (GivesV (.int .i64 (idxP p kids)) w) := by
  have HP := Lib.hid hp
  have HKK := Lib.hid hk
  obtain ⟨n, hn⟩ : ∃ n, kids.length = n := ⟨_, rfl⟩
  have HN := Lib.hid hn
  have hn6 : n ≤ 1000000 := by have := hk.few; omega
  rw [hn]
  clear hp hk hn
  go_enter Tryd.func33, Tryd.ntmps33
  go_wp2_with fail
  go_loopw [8] (fun (iv : Value) (wr : World) => ∃ k : Nat, k ≤ n ∧ iv = .int .i64 (k : Int) ∧ Hid (∀ y ∈ kids.take k, p y = false) ∧ Hid (Below w.heap.size w wr)) (fun iv _ => n - (intOf iv).toNat)
  case atStart => exact ⟨0, Nat.zero_le _, rfl, Lib.hid (by simp), Lib.hid (Below.refl _ _)⟩
  case round =>
    obtain ⟨k, hkn, rfl, HE, HB⟩ := hrel
    by_cases hlt : k < n
    · have hget : kids[k]? = some (kids.getD k 0) := by rw [List.getD_eq_getElem?_getD, List.getElem?_eq_getElem (by rw [HN.out]; exact hlt)]; rfl
      have HG := Lib.hid hget
      obtain ⟨bb, off, rfl, hc⟩ := (HKK.out.kept HB.out).get hget
      clear hget
      generalize kids.getD k 0 = x at *
      have HC := Lib.hid (HP.out wr HB.out x)
      have hki : (k : Int) < (n : Int) := by omega
      have hiw : wrap64 ((k : Int) + 1) = (k : Int) + 1 := IntWalk.wrap64_in _ (by omega)
      cases hq : p x with
      | true =>
        have HV := Lib.hid (idxP_at (p := p) HE.out HG.out hq)
        rw [hq] at HC
        clear hq
        go_wp2_with fail
        refine HC.out.mono ?_
        rintro e w2 ⟨rfl, hb2⟩
        have HB2 := Lib.hid (HB.out.trans (hb2.mono HB.out.size))
        clear hb2
        go_wp2_with fail
        go_ret
        exact GivesV.mk' (by rw [HV.out]; rfl) HB2.out
      | false =>
        have HV : Hid (∀ y ∈ kids.take (k + 1), p y = false) := Lib.hid (by
          have hk2 : k < kids.length := by rw [HN.out]; exact hlt
          have hx : kids[k] = x := by have := HG.out; rw [List.getElem?_eq_getElem hk2] at this; exact Option.some.inj this
          rw [List.take_succ_eq_append_getElem hk2, hx]
          intro y hy
          rcases List.mem_append.1 hy with hy | hy
          · exact HE.out y hy
          · have : y = x := by simpa using hy
            rw [this]; exact hq)
        rw [hq] at HC
        clear hq
        go_wp2_with fail
        refine HC.out.mono ?_
        rintro e w2 ⟨rfl, hb2⟩
        have HB2 := Lib.hid (HB.out.trans (hb2.mono HB.out.size))
        clear hb2
        go_wp2_with fail
        go_roundw
        case rel => exact ⟨k + 1, by omega, by go_num, HV, HB2⟩
        case measure => simp [intOf]; omega
    · obtain rfl : k = n := by omega
      have HV : Hid (idxP p kids = -1) := Lib.hid (idxP_none (by have := HE.out; rw [List.take_of_length_le (by rw [HN.out]; exact Nat.le_refl _)] at this; exact this))
      go_wp2_with fail
      go_ret
      exact GivesV.mk' (by rw [HV.out]; rfl) HB.out
theorem contains_far (hp : ∀ W, Below w.heap.size w W → ∀ x, Calls Tryd.prog 22 #[.int .i64 x, .pointer (some ⟨b, 0, none⟩)] W (GivesV (.bool (p x)) W)) {a : Option Addr} {kids : List Int} {c : Nat} (hk : KAt w a kids c) :
    Calls Tryd.prog 21 #[.slice a kids.length c, .func (.func 22) #[] #[.pointer (some ⟨b, 0, none⟩)]] w (GivesV (.bool (kids.any p)) w) := by
  have HI := Lib.hid (index_far hp hk)
  have he := idxP_any p kids
  rw [← he]
  generalize idxP p kids = x at *
  clear hp hk he
  go_enter Tryd.func21, Tryd.ntmps21
  go_wp2_with fail
  refine HI.out.mono ?_
  rintro e w' ⟨rfl, hb⟩
  have HB := Lib.hid hb
  clear hb
  go_wp2_with fail
  go_ret
  exact GivesV.mk' rfl HB.out
end

end Go.Proofs.YtmiocohlklnglaaDoor
