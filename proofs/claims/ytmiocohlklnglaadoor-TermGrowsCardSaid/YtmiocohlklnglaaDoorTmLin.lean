/-
  Layer 9: isLinear, isGround.
-/
import Derived.Test.YtmiocohlklnglaaDoorTmSort
set_option linter.unusedVariables false
set_option linter.unusedSimpArgs false
namespace Go.Proofs.YtmiocohlklnglaaDoor
open Go.RowKit Tm

section
variable {w w' : World} {B R mo mg : Nat} {kv : Value} {g : Ru}
theorem KAt.some_of {a : Option Addr} {kids : List Int} {c : Nat} (h : KAt w a kids c) (hn : kids ≠ []) : ∃ b off, a = some ⟨b, off, none⟩ := by
  rcases h.at_ with e | ⟨b, off, e, _⟩
  · exact absurd e hn
  · exact ⟨b, off, e⟩
set_option maxRecDepth 100000 in
set_option maxHeartbeats 4000000 in
theorem linear_any (h : RuAt w B R mo mg kv g) (n : Nd) {ka : Option Addr} {kc : Nat} (hk : KAt w ka n.kids kc) (s : Bool) (a1 : Option Addr) (l1 c1 : Nat) (a2 : Option Addr) (l2 c2 : Nat) (h21 : n.op = 21 → 1 ≤ n.kids.length) :
    Calls Tryd.prog 26 #[.pointer (some ⟨R, 0, none⟩), .agg #[.int .i64 n.op, .int .i64 n.v, .slice ka n.kids.length kc, .bool s, .slice a1 l1 c1, .slice a2 l2 c2]] w (GivesV (.bool (linear g.ks n)) w) := by
  have hb2 : Below w.heap.size w (w.alloc (.cells #[.int .i64 n.op, .int .i64 n.v, .slice ka n.kids.length kc, .bool s, .slice a1 l1 c1, .slice a2 l2 c2] 39)) := (Below.refl _ _).alloc (Nat.le_refl _) _
  have HI := Lib.hid (index_loose (w := (w.alloc (.cells #[.int .i64 n.op, .int .i64 n.v, .slice ka n.kids.length kc, .bool s, .slice a1 l1 c1, .slice a2 l2 c2] 39))) (b := R) (fun W hW x => loose_any ((h.kept hb2).kept hW) x) (hk.kept hb2))
  have HC : Hid (∀ m, m ≤ n.kids.length → ∀ b off, ka = some ⟨b, off, none⟩ → ∀ W, Below w.heap.size w W → Calls Tryd.prog 21 #[.slice (some ⟨b, off + m, none⟩) (n.kids.length - m) (kc - m), .func (.func 35) #[.pointer (some ⟨R, 0, none⟩)] #[]] W (GivesV (.bool ((n.kids.drop m).any (loose g.ks))) W)) := Lib.hid fun m hm b off e W hW => by
    have := contains_loose (w := W) (b := R) (fun W' hW' x => loose_any ((h.kept hW).kept hW') x) ((hk.kept hW).drop hm e)
    rw [List.length_drop] at this
    exact this
  have HC0 : Hid (∀ m, kc = m → ∀ b off, ka = some ⟨b, off, none⟩ → ∀ W, Below w.heap.size w W → Calls Tryd.prog 21 #[.slice (some ⟨b, off, none⟩) 0 0, .func (.func 35) #[.pointer (some ⟨R, 0, none⟩)] #[]] W (GivesV (.bool ((n.kids.drop m).any (loose g.ks))) W)) := Lib.hid fun m hm b off e W hW => by
    have hcap := hk.cap
    have hd : n.kids.drop m = [] := List.drop_eq_nil_of_le (by omega)
    have := contains_loose (w := W) (b := R) (fun W' hW' x => loose_any ((h.kept hW).kept hW') x) (a := some ⟨b, off, none⟩) (kids := n.kids.drop m) (c := 0) ⟨.inl hd, by rw [hd]; exact Nat.le_refl _, by omega, fun e => (by cases e), by rw [hd]; simp⟩
    have hl : (n.kids.drop m).length = 0 := by rw [hd]; rfl
    rw [hl] at this
    exact this
  have HKK := Lib.hid hk
  have hcap := hk.cap
  have hcp := hk.capped
  have hfw := hk.few
  have hib := idxP_bounds (loose g.ks) n.kids
  unfold linear
  clear h hk
  by_cases h20 : n.op = 20
  · rw [if_pos h20]
    have h20' : (n.op == 20) = true := by simpa using h20
    clear h20 h21
    by_cases hneg : idxP (loose g.ks) n.kids < 0
    · have hm1 : idxP (loose g.ks) n.kids = -1 := by omega
      rw [hm1] at HI ⊢
      clear hib hneg HC HC0 HKK hcap hcp
      go_enter Tryd.func26, Tryd.ntmps26
      go_wp2_with fail
      refine HI.out.mono ?_
      rintro e w' ⟨rfl, hb⟩
      have HB := Lib.hid (hb2.trans (hb.mono hb2.size))
      clear hb
      go_wp2_with fail
      go_ret
      exact GivesV.mk' rfl HB.out
    · obtain ⟨k, hkk⟩ : ∃ k : Nat, idxP (loose g.ks) n.kids = (k : Int) := ⟨(idxP (loose g.ks) n.kids).toNat, by omega⟩
      rw [hkk] at HI hib ⊢
      have hkn : k < n.kids.length := by omega
      have hne : n.kids ≠ [] := fun e => by rw [e] at hkn; simp at hkn
      obtain ⟨b, off, rfl⟩ := HKK.out.some_of hne
      have HD := Lib.hid (HC.out (k + 1) (by omega) b off rfl)
      have HD0 := Lib.hid (fun e => HC0.out (k + 1) e b off rfl)
      have hneg' : decide ((k : Int) < 0) = false := by simp
      have hne' : ¬ ((k : Int) < 0) := by omega
      have htn : ((k : Int)).toNat = k := by omega
      rw [hneg', htn]
      generalize (n.kids.drop (k + 1)).any (loose g.ks) = res at *
      have hiw : wrap64 ((k : Int) + 1) = (k : Int) + 1 := IntWalk.wrap64_in _ (by omega)
      have htn1 : ((k : Int) + 1).toNat = k + 1 := by omega
      have f1 : (0 : Int) ≤ (k : Int) + 1 := by omega
      have f2 : (k : Int) + 1 ≤ (n.kids.length : Int) := by omega
      have f3 : (k : Int) + 1 ≤ (kc : Int) := by omega
      generalize n.kids.length = len at *
      clear hib HC HC0 HKK hkk hneg hne htn
      by_cases hkc : kc = k + 1
      · have HDD := Lib.hid (HD0.out hkc)
        subst hkc
        clear HD HD0 f3
        go_enter Tryd.func26, Tryd.ntmps26
        go_wp2_with fail
        refine HI.out.mono ?_
        rintro e w' ⟨rfl, hb⟩
        have HB := Lib.hid (hb2.trans (hb.mono hb2.size))
        have HN : Hid (w'.cell? ⟨w.heap.size, 2, none⟩ = some (.slice (some ⟨b, off, none⟩) len (k + 1))) := Lib.hid ((hb.cell (p := ⟨w.heap.size, 2, none⟩) (by simp)).trans (by simp))
        have hx2 := HN.out
        clear hb
        go_wp2_with fail
        refine (HDD.out _ HB.out).mono ?_
        rintro e w3 ⟨rfl, hb3⟩
        have HB3 := Lib.hid (HB.out.trans (hb3.mono HB.out.size))
        clear hb3
        go_wp2_with fail
        go_ret
        exact GivesV.mk' rfl HB3.out
      · have f4 : ¬ kc - (k + 1) = 0 := by omega
        clear HD0 hkc
        go_enter Tryd.func26, Tryd.ntmps26
        go_wp2_with fail
        refine HI.out.mono ?_
        rintro e w' ⟨rfl, hb⟩
        have HB := Lib.hid (hb2.trans (hb.mono hb2.size))
        have HN : Hid (w'.cell? ⟨w.heap.size, 2, none⟩ = some (.slice (some ⟨b, off, none⟩) len kc)) := Lib.hid ((hb.cell (p := ⟨w.heap.size, 2, none⟩) (by simp)).trans (by simp))
        have hx2 := HN.out
        clear hb
        go_wp2_with fail
        refine (HD.out _ HB.out).mono ?_
        rintro e w3 ⟨rfl, hb3⟩
        have HB3 := Lib.hid (HB.out.trans (hb3.mono HB.out.size))
        clear hb3
        go_wp2_with fail
        go_ret
        exact GivesV.mk' rfl HB3.out
  · rw [if_neg h20]
    have h20' : (n.op == 20) = false := by simpa using h20
    by_cases h21' : n.op = 21
    · rw [if_pos h21']
      have h1 := h21 h21'
      have hne : n.kids ≠ [] := fun e => by rw [e] at h1; simp at h1
      obtain ⟨b, off, rfl⟩ := HKK.out.some_of hne
      have HD := Lib.hid (HC.out 1 h1 b off rfl _ hb2)
      have HD0 := Lib.hid (fun e => HC0.out 1 e b off rfl _ hb2)
      have e21 : (n.op == 21) = true := by simpa using h21'
      generalize (n.kids.drop 1).any (loose g.ks) = res at *
      have f2 : (1 : Int) ≤ (n.kids.length : Int) := by omega
      have f3 : (1 : Int) ≤ (kc : Int) := by omega
      generalize n.kids.length = len at *
      clear HI HC HC0 HKK hib h20 h21 h21' hne
      by_cases hkc : kc = 1
      · have HDD := Lib.hid (HD0.out hkc)
        clear HD HD0 f3
        subst hkc
        go_enter Tryd.func26, Tryd.ntmps26
        go_wp2_with fail
        refine HDD.out.mono ?_
        rintro e w' ⟨rfl, hb⟩
        have HB := Lib.hid (hb2.trans (hb.mono hb2.size))
        clear hb
        go_wp2_with fail
        go_ret
        exact GivesV.mk' rfl HB.out
      · have f4 : ¬ kc - 1 = 0 := by omega
        clear HD0 hkc
        go_enter Tryd.func26, Tryd.ntmps26
        go_wp2_with fail
        refine HD.out.mono ?_
        rintro e w' ⟨rfl, hb⟩
        have HB := Lib.hid (hb2.trans (hb.mono hb2.size))
        clear hb
        go_wp2_with fail
        go_ret
        exact GivesV.mk' rfl HB.out
    · rw [if_neg h21']
      have e21 : (n.op == 21) = false := by simpa using h21'
      clear HI HC HC0 HKK hib h20 h21 h21'
      go_enter Tryd.func26, Tryd.ntmps26
      go_wp2_with fail
      go_ret
      exact GivesV.mk' rfl hb2
set_option maxRecDepth 100000 in
set_option maxHeartbeats 4000000 in
theorem ground_any (h : RuAt w B R mo mg kv g) (n : Nd) {ka : Option Addr} {kc : Nat} (hk : KAt w ka n.kids kc) (s : Bool) (a1 : Option Addr) (l1 c1 : Nat) (a2 : Option Addr) (l2 c2 : Nat) :
    Calls Tryd.prog 28 #[.pointer (some ⟨R, 0, none⟩), .agg #[.int .i64 n.op, .int .i64 n.v, .slice ka n.kids.length kc, .bool s, .slice a1 l1 c1, .slice a2 l2 c2]] w (GivesV (.bool (ground g.ks n)) w) := by
  have hb2 : Below w.heap.size w (w.alloc (.cells #[.int .i64 n.op, .int .i64 n.v, .slice ka n.kids.length kc, .bool s, .slice a1 l1 c1, .slice a2 l2 c2] 39)) := (Below.refl _ _).alloc (Nat.le_refl _) _
  have HC := Lib.hid (contains_loose (w := (w.alloc (.cells #[.int .i64 n.op, .int .i64 n.v, .slice ka n.kids.length kc, .bool s, .slice a1 l1 c1, .slice a2 l2 c2] 39))) (b := R) (fun W hW x => loose_any ((h.kept hb2).kept hW) x) (hk.kept hb2))
  unfold ground
  generalize n.kids.any (loose g.ks) = res at *
  clear h hk
  by_cases h5 : n.op = 5
  · rw [if_pos h5]
    have e5 : (n.op == 5) = true := by simpa using h5
    clear h5 HC
    go_enter Tryd.func28, Tryd.ntmps28
    go_wp2_with fail
    go_ret
    exact GivesV.mk' rfl hb2
  · rw [if_neg h5]
    have e5 : (n.op == 5) = false := by simpa using h5
    by_cases hq : n.op = 18 ∨ n.op = 19 ∨ n.op = 20 ∨ n.op = 21
    · rw [if_pos hq]
      clear h5
      have go : ∀ b18 b19 b20 b21 : Bool, (n.op == 18) = b18 → (n.op == 19) = b19 → (n.op == 20) = b20 → (n.op == 21) = b21 → (b18 || b19 || b20 || b21) = true → Calls Tryd.prog 28 #[.pointer (some ⟨R, 0, none⟩), .agg #[.int .i64 n.op, .int .i64 n.v, .slice ka n.kids.length kc, .bool s, .slice a1 l1 c1, .slice a2 l2 c2]] w (GivesV (.bool (!res)) w) := by
        intro b18 b19 b20 b21 e18 e19 e20 e21 hb
        cases b18 <;> cases b19 <;> cases b20 <;> cases b21 <;> first | exact absurd hb (by decide) | (
          go_enter Tryd.func28, Tryd.ntmps28
          go_wp2_with fail
          refine HC.out.mono ?_
          rintro e w' ⟨rfl, hb⟩
          have HB := Lib.hid (hb2.trans (hb.mono hb2.size))
          clear hb
          go_wp2_with fail
          go_ret
          exact GivesV.mk' rfl HB.out)
      exact go _ _ _ _ rfl rfl rfl rfl (by rcases hq with h | h | h | h <;> simp [h])
    · rw [if_neg hq]
      have e18 : (n.op == 18) = false := by rw [beq_eq_false_iff_ne]; intro h; exact hq (by simp [h])
      have e19 : (n.op == 19) = false := by rw [beq_eq_false_iff_ne]; intro h; exact hq (by simp [h])
      have e20 : (n.op == 20) = false := by rw [beq_eq_false_iff_ne]; intro h; exact hq (by simp [h])
      have e21 : (n.op == 21) = false := by rw [beq_eq_false_iff_ne]; intro h; exact hq (by simp [h])
      clear h5 hq HC
      go_enter Tryd.func28, Tryd.ntmps28
      go_wp2_with fail
      go_ret
      exact GivesV.mk' rfl hb2
end
end Go.Proofs.YtmiocohlklnglaaDoor
