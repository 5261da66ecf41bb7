/-
  Layer 17: Right says so of a queue that is right.
-/
import Derived.Test.YtkepengljbeipaaQuIdx
import Derived.Test.YtkepengljbeipaaQuUp
import Derived.Test.YtkepengljbeipaaQuNew
set_option linter.unusedVariables false
set_option linter.unusedSimpArgs false
namespace Go.Proofs.Ytkepengljbeipaa
open Go.RowKit Qu

theorem chain1 (w : World) (A : Obj) : (w.alloc A).heap[w.heap.size]? = some A := by
  have e : (w.alloc A).heap = w.heap.push A := rfl
  rw [e, Array.getElem?_push, if_pos rfl]
theorem chain2 (w : World) (A B : Obj) : ((w.alloc A).alloc B).heap[w.heap.size]? = some A ∧ ((w.alloc A).alloc B).heap[w.heap.size + 1]? = some B := by
  have e : ((w.alloc A).alloc B).heap = (w.heap.push A).push B := rfl
  rw [e]
  simp only [Array.getElem?_push, Array.size_push]
  refine ⟨?_, ?_⟩ <;> repeat (first | rw [if_pos trivial] | rw [if_pos (by omega)] | rw [if_neg (by omega)])
section
variable {w : World} {b s h n : Nat} {sc l : List Int} {len : Nat}
theorem wrong_any (w : World) (x : Int) (h0 : 0 ≤ x) (h1 : x ≤ 1152921504606846976) : Calls Try.prog 23 #[.int .i64 x] w fun e w' => e = .returned (.bool false) ∧ w = w' := by
  have e1 : decide (x < 0) = false := decide_eq_false (by omega)
  have e2 : decide (1152921504606846976 < x) = false := decide_eq_false (by omega)
  clear h0 h1
  go_enter Try.func23, Try.ntmps23
  go_wp2_with fail
  go_ret
  exact ⟨rfl, rfl⟩
theorem IndexFunc_no (C : Cells w s sc n) (hf : n ≤ 1048576) (hs : ∀ v, v < n → 0 ≤ el sc v ∧ el sc v ≤ 1152921504606846976) (c : Nat) :
    Calls Try.prog 30 #[.slice (some ⟨s, 0, none⟩) n c, .func (.func 23) #[] #[]] w fun e w' => e = .returned (.int .i64 (-1)) ∧ w = w' := by
  have HC := Lib.hid C
  have HS := Lib.hid hs
  clear C hs
  go_enter Try.func30, Try.ntmps30
  go_wp2_with fail
  go_loop [8] (fun jv => ∃ k : Nat, k ≤ n ∧ jv = .int .i64 k) (fun jv => n - (intOf jv).toNat)
  case atStart => exact ⟨0, Nat.zero_le _, rfl⟩
  case round =>
    obtain ⟨k, hk, rfl⟩ := hrel
    by_cases hkl : k < n
    · have hc := HC.out k hkl
      have hx := HS.out k hkl
      generalize el sc k = x at *
      have HW := Lib.hid (wrong_any w x hx.1 hx.2)
      clear hx
      go_wp2_with fail
      refine HW.out.mono ?_
      rintro e w' ⟨rfl, rfl⟩
      go_wp2_with fail
      go_round
      case rel => exact ⟨k + 1, by omega, by go_num⟩
      case measure => simp [intOf]; omega
    · go_wp2_with fail
      go_ret
      exact ⟨rfl, rfl⟩
theorem ContainsFunc_no (C : Cells w s sc n) (hf : n ≤ 1048576) (hs : ∀ v, v < n → 0 ≤ el sc v ∧ el sc v ≤ 1152921504606846976) (c : Nat) :
    Calls Try.prog 24 #[.slice (some ⟨s, 0, none⟩) n c, .func (.func 23) #[] #[]] w fun e w' => e = .returned (.bool false) ∧ w = w' := by
  have HI := Lib.hid (IndexFunc_no C hf hs c)
  clear C hs
  go_enter Try.func24, Try.ntmps24
  go_wp2_with fail
  refine HI.out.mono ?_
  rintro e w' ⟨rfl, rfl⟩
  go_wp2_with fail
  go_ret
  exact ⟨rfl, rfl⟩
/-- Who of n is among the first k. -/
def seen (n : Nat) (l : List Int) (k : Nat) : List Bool := (List.range n).map fun v : Nat => (List.range k).any fun i => el l i == (v : Int)
theorem seen_len (n : Nat) (l : List Int) (k : Nat) : (seen n l k).length = n := by simp [seen]
theorem seen_zero (n : Nat) (l : List Int) : seen n l 0 = List.replicate n false := by
  apply List.ext_getElem
  · simp [seen]
  · intro i h1 h2
    simp [seen]
theorem seen_at {n : Nat} {l : List Int} {k v : Nat} (hv : v < n) : (seen n l k)[v]? = some ((List.range k).any fun i => el l i == (v : Int)) := by simp [seen, hv]
theorem seen_set {n : Nat} {l : List Int} {k v : Nat} (hv : v < n) (he : el l k = (v : Int)) : (seen n l k).set v true = seen n l (k + 1) := by
  apply List.ext_getElem
  · simp [seen]
  · intro i h1 h2
    simp only [seen, List.getElem_set, List.getElem_map, List.getElem_range, List.range_succ, List.any_append, List.any_cons, List.any_nil, Bool.or_false, he]
    by_cases c : v = i
    · subst c
      simp
    · rw [if_neg c]
      have : ((v : Int) == (i : Int)) = false := by
        rw [beq_eq_false_iff_ne]
        omega
      rw [this, Bool.or_false]
theorem seen_new {n : Nat} {l : List Int} {k v : Nat} (hv : v < n) (he : el l k = (v : Int)) (hI : ∀ i, i < k → el l i ≠ el l k) : (seen n l k)[v]? = some false := by
  rw [seen_at hv]
  congr 1
  rw [List.any_eq_false]
  intro i hi
  have := hI i (List.mem_range.1 hi)
  rw [he] at this
  simpa using this
structure SeenIn (w : World) (g s h n : Nat) (sc l : List Int) (len k : Nat) (W : World) : Prop where
  seen : W.heap[g]? = some (.cells (bools (seen n l k)).toArray 4 (0, 0))
  rows : RwAt W s h n sc l
  below : Below w.heap.size w W
  own : w.heap.size < g
  boxed : W.heap[w.heap.size]? = some (.cells #[.slice (some ⟨s, 0, none⟩) n n, .slice (some ⟨h, 0, none⟩) len n] 26 (0, 0))
theorem SeenIn.kept {g k : Nat} {w W W' : World} (x : SeenIn w g s h n sc l len k W) (hb : Below W.heap.size W W') : SeenIn w g s h n sc l len k W' :=
  ⟨(hb.block _ (Array.getElem?_eq_some_iff.1 x.seen).1).trans x.seen, x.rows.kept hb, x.below.trans (hb.mono x.below.size), x.own, (hb.block _ (Array.getElem?_eq_some_iff.1 x.boxed).1).trans x.boxed⟩
theorem SeenIn.set {g k v : Nat} {w W : World} (x : SeenIn w g s h n sc l len k W) (hs : s < w.heap.size) (hh : h < w.heap.size) (hv : v < n) (he : el l k = (v : Int)) : SeenIn w g s h n sc l len (k + 1) (W.setCell ⟨g, v, none⟩ (.bool true)) := by
  have h1 := x.own
  refine ⟨?_, x.rows.past (heap_setCell_other _ _ _ _ (show s ≠ g by omega)) (heap_setCell_other _ _ _ _ (show h ≠ g by omega)), x.below.setCell (show w.heap.size ≤ g by omega) _, h1, (heap_setCell_other _ _ _ _ (show w.heap.size ≠ g by omega)).trans x.boxed⟩
  rw [heap_setCell_same W g v _ _ _ x.seen, ← seen_set hv he]
  simp [bools, List.map_set]
set_option maxHeartbeats 1000000 in
set_option maxRecDepth 100000 in
theorem areUnknowns_yes (k : RwAt w s h n sc l) (hl : len ≤ n) (R : Rng l n len) (hI : Inj l len) (hn60 : n ≤ 60) : Calls Try.prog 25 #[qV s h n len] w (GivesV (.bool true) w) := by
  have hmk := fun W => run_make_bools W n (by omega)
  have hsl := k.score.lt
  have hhl := k.heap.lt
  have HI : Hid (SeenIn w (w.heap.size + 1) s h n sc l len 0 ((w.alloc (.cells #[.slice (some ⟨s, 0, none⟩) n n, .slice (some ⟨h, 0, none⟩) len n] 26)).alloc (.cells (bools (List.replicate n false)).toArray 4))) := Lib.hid (by
    have hb : Below w.heap.size w ((w.alloc (.cells #[.slice (some ⟨s, 0, none⟩) n n, .slice (some ⟨h, 0, none⟩) len n] 26)).alloc (.cells (bools (List.replicate n false)).toArray 4)) := ((Below.refl _ _).alloc (Nat.le_refl _) _).alloc (by simp) _
    refine ⟨?_, k.kept hb, hb, by omega, ?_⟩
    · rw [seen_zero]; exact (chain2 _ _ _).2
    · exact (chain2 _ _ _).1)
  have HR := Lib.hid R
  have HJ := Lib.hid hI
  generalize (bools (List.replicate n false)).toArray = Z at *
  unfold qV at *
  clear k R hI
  go_enter Try.func25, Try.ntmps25
  go_wp2_with fail
  clear hmk
  go_loopw [13] (fun iv wr => ∃ k : Nat, k ≤ len ∧ iv = .int .i64 k ∧ SeenIn w (w.heap.size + 1) s h n sc l len k wr) (fun iv _ => len - (intOf iv).toNat)
  case atStart => exact ⟨0, Nat.zero_le _, rfl, HI.out⟩
  case round =>
    obtain ⟨k, hk, rfl, HK⟩ := hrel
    have HHK := Lib.hid HK
    clear HI
    obtain ⟨c0, c1, _⟩ := Head.cells (b := w.heap.size) (w := wr) HK.boxed
    by_cases hkn : k < len
    · have hc : wr.cell? ⟨h, k, none⟩ = some (.int .i64 (el l k)) := HK.rows.heap.cell (by rw [HK.rows.ll]; omega)
      obtain ⟨v, hv⟩ : ∃ v : Nat, el l k = (v : Int) := ⟨(el l k).toNat, by have := HR.out k hkn; omega⟩
      have hvn : v < n := by have := HR.out k hkn; omega
      have HV := Lib.hid hv
      have HU := Lib.hid (fun W => known_yes W s h n len (v : Int) (by omega) (by omega))
      have HS := Lib.hid (fun W (x : Below wr.heap.size wr W) => (HK.kept x).set hsl hhl hvn hv)
      have HG := Lib.hid (fun W (x : Below wr.heap.size wr W) => (show W.cell? ⟨w.heap.size + 1, v, none⟩ = some (.bool false) ∧ W.frozen? ⟨w.heap.size + 1, v, none⟩ = false by
        have z := (HK.kept x).seen
        have z2 := seen_new (n := n) (l := l) (k := k) hvn hv (fun i hi e => by have := HJ.out i k (by omega) hkn e; omega)
        simp [World.cell?, World.frozen?, z, bools, z2]))
      rw [hv] at hc
      unfold qV at *
      clear HK hv
      go_wp2_with fail
      refine (HU.out _).mono ?_
      rintro e w1 ⟨rfl, hb⟩
      have HB := Lib.hid hb
      obtain ⟨g0, g1⟩ := HG.out _ hb
      clear hb HU HG
      go_wp2_with fail
      go_roundw
      case rel => exact ⟨k + 1, by omega, by go_num, HS.out _ HB.out⟩
      case measure => simp [intOf]; omega
    · clear HK
      go_wp2_with fail
      go_ret
      exact GivesV.mk' rfl HHK.out.below
/-- While the order is looked through: a queue's variable of its own, and the pointer to it. -/
structure OrdIn (w : World) (s h n : Nat) (sc l : List Int) (len : Nat) (W : World) : Prop where
  q : QAt W w.heap.size s h n sc l len
  ptr : W.heap[w.heap.size + 1]? = some (.cells #[.pointer (some ⟨w.heap.size, 0, none⟩)] 50 (0, 0))
  below : Below w.heap.size w W
theorem OrdIn.kept {w W W' : World} (x : OrdIn w s h n sc l len W) (hb : Below W.heap.size W W') : OrdIn w s h n sc l len W' :=
  ⟨x.q.kept hb, (hb.block _ (Array.getElem?_eq_some_iff.1 x.ptr).1).trans x.ptr, x.below.trans (hb.mono x.below.size)⟩
set_option maxHeartbeats 1000000 in
set_option maxRecDepth 100000 in
theorem isOrdered_yes (k : RwAt w s h n sc l) (hl : len ≤ n) (R : Rng l n len) (hp : Hp sc l len 0) (hn60 : n ≤ 60) : Calls Try.prog 26 #[qV s h n len] w (GivesV (.bool true) w) := by
  have HI : Hid (OrdIn w s h n sc l len ((w.alloc (.cells #[.slice (some ⟨s, 0, none⟩) n n, .slice (some ⟨h, 0, none⟩) len n] 26)).alloc (.cells #[.pointer (some ⟨w.heap.size, 0, none⟩)] 50))) := Lib.hid (by
    have hb : Below w.heap.size w ((w.alloc (.cells #[.slice (some ⟨s, 0, none⟩) n n, .slice (some ⟨h, 0, none⟩) len n] 26)).alloc (.cells #[.pointer (some ⟨w.heap.size, 0, none⟩)] 50)) := ((Below.refl _ _).alloc (Nat.le_refl _) _).alloc (by simp) _
    exact ⟨⟨(chain2 _ _ _).1, k.kept hb, hl⟩, (chain2 _ _ _).2, hb⟩)
  have HR := Lib.hid R
  have HP := Lib.hid hp
  unfold qV at *
  clear k R hp
  go_enter Try.func26, Try.ntmps26
  go_wp2_with fail
  go_loopw [4] (fun iv wr => ∃ k : Nat, 1 ≤ k ∧ k ≤ 61 ∧ iv = .int .i64 k ∧ OrdIn w s h n sc l len wr) (fun iv _ => 100 - (intOf iv).toNat)
  case atStart => exact ⟨1, Nat.le_refl _, by omega, rfl, HI.out⟩
  case round =>
    obtain ⟨k, hk1, hk, rfl, HK⟩ := hrel
    clear HI
    obtain ⟨m, rfl⟩ : ∃ m, k = m + 1 := ⟨k - 1, by omega⟩
    have p0 : wr.cell? ⟨w.heap.size + 1, 0, none⟩ = some (.pointer (some ⟨w.heap.size, 0, none⟩)) := by simp [World.cell?, HK.ptr]
    have HL := Lib.hid (Len_any HK.q)
    have HKK := Lib.hid (fun W (x : Below wr.heap.size wr W) => HK.kept x)
    unfold ordV at *
    by_cases hkn : m + 1 < len
    · obtain ⟨p, hp⟩ : ∃ p, p = m / 2 := ⟨_, rfl⟩
      have hpd : (m : Int) / 2 = (p : Int) := by omega
      have hpl : p < len := by omega
      have HT : Hid (aheadQ sc (el l p) (el l (m + 1)) = true) := Lib.hid (by
        have := HP.out (m + 1) hkn (by omega) (Nat.zero_le _)
        rw [show (m + 1 - 1) / 2 = p by omega] at this
        exact this)
      have hLs : ∀ W, Below wr.heap.size wr W → Calls Try.prog 32 #[ordV w.heap.size, .int .i64 (p : Int), .int .i64 ((m : Int) + 1)] W (GivesV (.bool true) W) := fun W x => by
        have := (HK.kept x).q.less HR.out p (m + 1) hpl hkn
        rw [HT.out] at this
        exact this
      have HLs := Lib.hid hLs
      have hlt : ((m : Int) + 1 < (len : Int)) := by omega
      clear HK hp hLs
      unfold ordV at *
      go_wp2_with fail
      refine HL.out.mono ?_
      rintro e w1 ⟨rfl, hb⟩
      have HB := Lib.hid hb
      have p1 : w1.cell? ⟨w.heap.size + 1, 0, none⟩ = some (.pointer (some ⟨w.heap.size, 0, none⟩)) := by simp [World.cell?, (HKK.out _ hb).ptr]
      clear hb HL p0
      go_wp2_with fail
      refine (HLs.out _ HB.out).mono ?_
      rintro e w2 ⟨rfl, hb⟩
      have HB2 := Lib.hid (HB.out.trans (hb.mono HB.out.size))
      clear hb HLs p1
      go_wp2_with fail
      go_roundw
      case rel => exact ⟨m + 1 + 1, by omega, by omega, by go_num, HKK.out _ HB2.out⟩
      case measure => simp [intOf]; omega
    · have hlt : ¬ ((m : Int) + 1 < (len : Int)) := by omega
      clear HK
      go_wp2_with fail
      refine HL.out.mono ?_
      rintro e w1 ⟨rfl, hb⟩
      have HB := Lib.hid hb
      clear hb HL p0
      go_wp2_with fail
      go_ret
      exact GivesV.mk' rfl (HKK.out _ HB.out).below
set_option maxHeartbeats 1000000 in
set_option maxRecDepth 100000 in
theorem Right_yes (k : RwAt w s h n sc l) (hr : Rt sc l len) (hn60 : n ≤ 60) : Calls Try.prog 14 #[qV s h n len] w (GivesV (.bool true) w) := by
  have hl : len ≤ n := by rw [← k.ll]; exact hr.le
  have R : Rng l n len := fun i hi => by have := hr.rng i hi; rw [k.ls] at this; exact this
  have hb0 := (Below.refl w.heap.size w).alloc (Nat.le_refl _) (.cells #[.slice (some ⟨s, 0, none⟩) n n, .slice (some ⟨h, 0, none⟩) len n] 26)
  obtain ⟨W1, hW1⟩ : ∃ W1, W1 = w.alloc (.cells #[.slice (some ⟨s, 0, none⟩) n n, .slice (some ⟨h, 0, none⟩) len n] 26) := ⟨_, rfl⟩
  rw [← hW1] at hb0
  have hd : Head W1 w.heap.size s h n len := by rw [hW1]; exact chain1 _ _
  have HD := Lib.hid (fun W (x : Below W1.heap.size W1 W) => (Head.cells (show Head W w.heap.size s h n len from (x.block _ hd.lt).trans hd)))
  have HB0 := Lib.hid hb0
  have HC := Lib.hid (ContainsFunc_no (w := W1) ((k.kept hb0).score.cells (by rw [k.ls]; exact Nat.le_refl _)) (by omega) (fun v hv => hr.scs v (by rw [k.ls]; exact hv)) n)
  have HU := Lib.hid (fun W (x : Below w.heap.size w W) => areUnknowns_yes (k.kept x) hl R hr.inj hn60)
  have HO := Lib.hid (fun W (x : Below w.heap.size w W) => isOrdered_yes (k.kept x) hl R hr.hp hn60)
  have c0 := hd.cells.1
  have c1 := hd.cells.2.1
  have HW := Lib.hid hW1
  unfold qV at *
  clear k hr R hb0 hd hW1
  go_enter Try.func14, Try.ntmps14
  go_wp2_with fail
  rw [← HW.out]
  refine HC.out.mono ?_
  rintro e w1 ⟨rfl, rfl⟩
  go_wp2_with fail
  refine (HU.out _ HB0.out).mono ?_
  rintro e w2 ⟨rfl, hb⟩
  have HB := Lib.hid hb
  obtain ⟨d0, d1, _⟩ := HD.out _ hb
  clear hb HU c0 c1
  go_wp2_with fail
  refine (HO.out _ (HB0.out.trans (HB.out.mono HB0.out.size))).mono ?_
  rintro e w3 ⟨rfl, hb⟩
  have HB2 := Lib.hid (HB.out.trans (hb.mono HB.out.size))
  clear hb HO
  go_wp2_with fail
  go_ret
  exact GivesV.mk' rfl (HB0.out.trans (HB2.out.mono HB0.out.size))
end
end Go.Proofs.Ytkepengljbeipaa
