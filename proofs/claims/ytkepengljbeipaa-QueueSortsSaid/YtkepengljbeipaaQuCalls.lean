/-
  Layer 17: Push, Pop, Bump, Halve.
-/
import Derived.Test.YtkepengljbeipaaQuHeap
import Derived.Test.YtkepengljbeipaaQuIdx
set_option linter.unusedVariables false
set_option linter.unusedSimpArgs false
namespace Go.Proofs.Ytkepengljbeipaa
open Go.RowKit Qu

section
variable {w : World} {b s h n : Nat} {sc l : List Int} {len : Nat}
theorem below_of {v : Value} {w w' : World} {e : Ending} (g : GivesV v w e w') : Below w.heap.size w w' := g.2
theorem Push_out (q : QAt w b s h n sc l len) (v : Int) (hv : v < 0 ∨ (n : Int) ≤ v) : Calls Try.prog 8 #[.pointer (some ⟨b, 0, none⟩), .int .i64 v] w (GivesV (.int .i64 2) w) := by
  obtain ⟨c0, c1⟩ := q.reads
  have hK := Lib.hid (fun W => known_no W s h n len v hv)
  unfold qV at *
  clear q hv
  go_enter Try.func8, Try.ntmps8
  go_wp2_with fail
  refine (hK.out _).mono ?_
  rintro e w1 ⟨rfl, hb⟩
  have HB := Lib.hid hb
  clear hb hK
  go_wp2_with fail
  go_ret
  exact GivesV.mk' rfl HB.out
theorem Push_in (q : QAt w b s h n sc l len) (v : Int) (h0 : 0 ≤ v) (h1 : v < (n : Int)) (hm : Mem l len v) : Calls Try.prog 8 #[.pointer (some ⟨b, 0, none⟩), .int .i64 v] w (GivesV (.int .i64 0) w) := by
  obtain ⟨c0, c1⟩ := q.reads
  have HC := Lib.hid (fun W (x : Below w.heap.size w W) => q.qk x)
  have hK := Lib.hid (fun W => known_yes W s h n len v h0 h1)
  have hH := Lib.hid (fun W (x : Below w.heap.size w W) => Has_yes (q.kept x).rows q.le v hm)
  unfold qV at *
  clear q h0 h1 hm
  go_enter Try.func8, Try.ntmps8
  go_wp2_with fail
  refine (hK.out _).mono ?_
  rintro e w1 ⟨rfl, hb⟩
  have HB := Lib.hid hb
  obtain ⟨d0, d1⟩ := HC.out _ hb
  clear hb hK HC c0 c1
  go_wp2_with fail
  refine (hH.out _ HB.out).mono ?_
  rintro e w2 ⟨rfl, hb⟩
  have HB2 := Lib.hid (HB.out.trans (hb.mono HB.out.size))
  clear hb hH HB
  go_wp2_with fail
  go_ret
  exact GivesV.mk' rfl HB2.out
theorem Push_new (q : QAt w b s h n sc l len) (R : Rng l n len) (v : Int) (h0 : 0 ≤ v) (h1 : v < (n : Int)) (hm : ¬ Mem l len v) (hl : len < n) :
    Calls Try.prog 8 #[.pointer (some ⟨b, 0, none⟩), .int .i64 v] w (GivesQ (.int .i64 0) (IsB b h) b s h n sc (Qu.push sc l len v) (len + 1) w) := by
  obtain ⟨c0, c1⟩ := q.reads
  have HC := Lib.hid (fun W (x : Below w.heap.size w W) => q.qk x)
  have hK := Lib.hid (fun W => known_yes W s h n len v h0 h1)
  have hH := Lib.hid (fun W (x : Below w.heap.size w W) => Has_no (q.kept x).rows q.le v hm)
  have hP := Lib.hid (fun W (x : Below w.heap.size w W) => heapPush_any (q.kept x) R hl v h0 h1)
  unfold qV ordV at *
  clear q h0 h1 hm R
  go_enter Try.func8, Try.ntmps8
  go_wp2_with fail
  refine (hK.out _).mono ?_
  rintro e w1 ⟨rfl, hb⟩
  have HB := Lib.hid hb
  obtain ⟨d0, d1⟩ := HC.out _ hb
  clear hb hK HC c0 c1
  go_wp2_with fail
  refine (hH.out _ HB.out).mono ?_
  rintro e w2 ⟨rfl, hb⟩
  have HB2 := Lib.hid (HB.out.trans (hb.mono HB.out.size))
  clear hb hH HB
  go_wp2_with fail
  refine (hP.out _ HB2.out).mono ?_
  rintro e w3 hg
  obtain ⟨rfl, _⟩ := id hg
  have HG := Lib.hid hg
  clear hg hP
  go_wp2_with fail
  go_ret
  exact GivesQ.to (.of_below HB2.out) HG.out (fun k hk => hk) rfl
theorem Pop_none (q : QAt w b s h n sc l 0) : Calls Try.prog 9 #[.pointer (some ⟨b, 0, none⟩)] w fun e w' => e = .returned (.tuple #[.int .i64 0, .bool false]) ∧ w = w' := by
  obtain ⟨c0, c1⟩ := q.reads
  clear q
  go_enter Try.func9, Try.ntmps9
  go_wp2_with fail
  go_ret2
  exact ⟨rfl, rfl⟩
theorem Pop_some (q : QAt w b s h n sc l len) (R : Rng l n len) (h0 : 0 < len) :
    Calls Try.prog 9 #[.pointer (some ⟨b, 0, none⟩)] w (GivesQ (.tuple #[.int .i64 (el (Qu.pop sc l len) (len - 1)), .bool true]) (IsB b h) b s h n sc (Qu.pop sc l len) (len - 1) w) := by
  obtain ⟨c0, c1⟩ := q.reads
  have hP := Lib.hid (heapPop_any q R h0)
  obtain ⟨m, rfl⟩ : ∃ m, len = m + 1 := ⟨len - 1, by omega⟩
  rw [Nat.add_sub_cancel] at hP ⊢
  have hne : ((m : Int) + 1 == 0) = false := by
    rw [beq_eq_false_iff_ne]
    omega
  generalize Qu.pop sc l (m + 1) = L at *
  have hta := fun W => assert_int W (.int .i64 (el L m))
  generalize el L m = x at *
  unfold ordV at *
  clear q R
  go_enter Try.func9, Try.ntmps9
  go_wp2_with fail
  refine hP.out.mono ?_
  rintro e w3 hg
  obtain ⟨rfl, _⟩ := id hg
  have HG := Lib.hid hg
  clear hg hP
  go_wp2_with fail
  go_ret2
  exact GivesQ.to (.refl _ _) HG.out (fun k hk => hk) rfl
end
end Go.Proofs.Ytkepengljbeipaa
