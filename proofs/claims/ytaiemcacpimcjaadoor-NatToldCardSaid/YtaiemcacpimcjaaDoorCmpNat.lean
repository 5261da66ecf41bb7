/-
  nat.compare, nat.Cmp.
-/
import Derived.Test.YtaiemcacpimcjaaDoorCompare
import Derived.Test.YtaiemcacpimcjaaDoorBack
import Derived.Test.YtaiemcacpimcjaaDoorTrimNum
import Derived.Test.YtaiemcacpimcjaaDoorShrink
set_option linter.unusedVariables false
set_option linter.unusedSimpArgs false
namespace Go.Proofs.YtaiemcacpimcjaaDoor
open Go.RowKit Rep
attribute [local go_sem] Oper.semAt_some

/-- A call gives a number, and leaves what there was as it was. -/
def GivesInt (v : Int) (w : World) (e : Ending) (w' : World) : Prop := e = .returned (.int .i64 v) ∧ Below w.heap.size w w'

set_option maxRecDepth 100000 in
set_option maxHeartbeats 400000 in
theorem compare_len (ax ay : Option Addr) (n m cx cy : Nat) (w : World) (h : n ≠ m) :
    Calls Tryd.prog 37 #[.slice ax n cx, .slice ay m cy] w (GivesInt (cmpI n m) w) := by
  have hb : ((n : Int) != (m : Int)) = true := by rw [bne_iff_ne]; omega
  have hn : ¬ (n = m) := h
  go_enter Tryd.func37, Tryd.ntmps37
  go_wp2_with fail
  refine (cmpInt_any _ _ _).mono ?_
  rintro e w' ⟨rfl, rfl⟩
  go_wp2_with fail
  exact bodyPost_ret (v := .int .i64 (cmpI n m)) (by simp [results, Tryd.results37, go_sem]) rfl ⟨rfl, ((Below.refl _ _).alloc (Nat.le_refl _) _).alloc (by simp) _⟩

/-- Behind so many places from above: they are the same. -/
def CmpIn (w : World) (ax ay : Option Addr) (cx cy : Nat) (xs ys : List Nat) (pre : List (Nat × Nat)) (W : World) : Prop :=
  (∀ k, k + pre.length = xs.length → xs.drop k = ys.drop k) ∧
    W.heap[w.heap.size]? = some (.cells #[.slice ay ys.length cy] 23 (0, 0)) ∧ W.heap[w.heap.size + 1]? = some (.cells #[.int .i64 0] 3 (0, 0)) ∧
    W.heap[w.heap.size + 2]? = some (.cells #[.slice ax xs.length cx] 23 (0, 0)) ∧ Below w.heap.size w W
/-- Left at a place where they part. -/
def CmpOut (w : World) (xs ys : List Nat) (c : Code) (W : World) : Prop :=
  c = .ret ∧ W.heap[w.heap.size + 1]? = some (.cells #[.int .i64 (cmpI (V xs) (V ys))] 3 (0, 0)) ∧ Below w.heap.size w W

theorem cmp_own (w : World) (ax ay : Option Addr) (cx cy : Nat) (xs ys : List Nat) (B0 : Nat) (hB : w.heap.size ≤ B0) : OwnFrom B0 (CmpIn w ax ay cx cy xs ys) := by
  intro pre W W' row h hg hr
  obtain ⟨h1, h2, h3, h4, h5⟩ := h
  have kc : ∀ {b : Nat} {c : Array Value} {e : TypeId} {z : Nat × Nat}, W.heap[b]? = some (.cells c e z) → W'.heap[b]? = some (.cells c e z) :=
    fun hb => (grownBy_keeps_cells hg (fun r e => (hr r e).2) hb rfl).trans hb
  exact ⟨h1, kc h2, kc h3, kc h4, h5.grown hg h5.size (fun k e => by have := (hr k e).1; omega)⟩
theorem cmp_own2 (w : World) (xs ys : List Nat) (B0 : Nat) (hB : w.heap.size ≤ B0) (c : Code) : OwnFrom B0 (fun (_ : List (Nat × Nat)) W => CmpOut w xs ys c W) := by
  intro pre W W' row h hg hr
  obtain ⟨h1, h2, h3⟩ := h
  exact ⟨h1, (grownBy_keeps_cells hg (fun r e => (hr r e).2) h2 rfl).trans h2, h3.grown hg h3.size (fun k e => by have := (hr k e).1; omega)⟩

/-- The first place from above at which two rows of one length part tells which is less. -/
theorem cmp_part {xs ys : List Nat} {i : Nat} (hx : Lim xs) (hy : Lim ys) (hl : ys.length = xs.length) (hi : i < xs.length) (hd : xs.drop (i + 1) = ys.drop (i + 1)) (hne : xs.getD i 0 ≠ ys.getD i 0) :
    cmpI (V xs) (V ys) = cmpI (xs.getD i 0) (ys.getD i 0) := by
  have e1 := val_take_drop 4294967296 i xs (by omega)
  have e2 := val_take_drop 4294967296 i ys (by omega)
  rw [drop_cons _ xs i hi] at e1
  rw [drop_cons _ ys i (by omega), ← hd] at e2
  have b1 := val_lt (hx.take i)
  have b2 := val_lt (hy.take i)
  rw [List.length_take, Nat.min_eq_left (by omega)] at b1 b2
  rw [Nat.mul_add] at e1 e2
  unfold V at *
  have key : ∀ {a b p : Nat}, a < b → p * a + p ≤ p * b := fun {a b p} h => by
    have := Nat.mul_le_mul_left p (show a + 1 ≤ b from h)
    rwa [Nat.mul_add, Nat.mul_one] at this
  rcases Nat.lt_or_gt_of_ne hne with h | h
  · have hk := key (p := 4294967296 ^ i) h
    unfold cmpI
    rw [if_pos (by omega), if_pos (by omega)]
  · have hk := key (p := 4294967296 ^ i) h
    unfold cmpI
    rw [if_neg (by omega), if_neg (by omega), if_neg (by omega), if_neg (by omega)]

theorem drop_same {xs ys : List Nat} {i : Nat} (hi : i < xs.length) (hj : i < ys.length) (hd : xs.drop (i + 1) = ys.drop (i + 1)) (he : xs.getD i 0 = ys.getD i 0) : xs.drop i = ys.drop i := by
  rw [List.drop_eq_getElem_cons hi, List.drop_eq_getElem_cons hj, hd]
  rw [getD_lt hi, getD_lt hj] at he
  rw [he]

set_option maxRecDepth 100000 in
set_option maxHeartbeats 2000000 in
theorem compare_same (ax ay : Option Addr) (cx cy : Nat) (xs ys : List Nat) (w : World) (hx : Lim xs) (hy : Lim ys) (hl : ys.length = xs.length) (rx : Reads w ax (xs.map u32v)) (ry : Reads w ay (ys.map u32v)) (lx : xs.length ≤ 1073741824) :
    Calls Tryd.prog 37 #[.slice ax xs.length cx, .slice ay ys.length cy] w (GivesInt (cmpI (V xs) (V ys)) w) := by
  have hb : ((xs.length : Int) != (ys.length : Int)) = false := by rw [hl]; simp
  have HL := Lib.hid hl
  have hle : xs.length ≤ ys.length := by omega
  clear hl
  refine (callsIn_wide (n := 3)).1 ?_
  refine callsIn_of_wp_marks Tryd.func37 rfl trivial ?_ rfl
  simp only [Tryd.ntmps37, List.size_toArray, List.length_cons, List.length_nil, Nat.reduceAdd, Nat.reduceSub, Array.replicate_succ, Array.replicate_zero, List.push_toArray, List.append_toArray, List.nil_append, List.cons_append]
  gi_wp2_with fail
  refine ⟨trivial, ?_⟩
  refine (callsIn_wide.2 (back_maker _ _ _ _)).mono ?_
  rintro e w' ⟨rfl, rfl⟩
  gi_wp2_with fail
  refine range_wide (n := 3) (by omega) (gf := 62) (lb := #[.pointer (some ⟨w.heap.size + 2, 0, none⟩)]) (by simp [Act.eval]) (enters_of Tryd.func62 (by kernel_rfl) rfl) (encs := encBack) (fun _ => rfl)
    (Down xs) (fun pre => pre.length = xs.length) (fun _ => True) (CmpIn w ax ay cx cy xs ys) (fun c _ W => CmpOut w xs ys c W)
    (back_iter _ (by omega) (w.heap.size + 2) cx ax xs lx _ ?hI) (cmp_own w ax ay cx cy xs ys _ (by simp; omega)) (cmp_own2 w xs ys _ (by simp; omega)) ?h0
    (fun x => { tmps := #[.slice ax xs.length cx, .slice ay ys.length cy, undef, .pointer (some ⟨w.heap.size, 0, none⟩), .pointer (some ⟨w.heap.size + 1, 0, none⟩), .int .i64 (x.1 : Int), .int .u32 (x.2 : Int), .slice ax xs.length cx, .int .i64 (xs.length : Int), .slice ay ys.length cy, .int .i64 (ys.length : Int), .bool false,
      undef, undef, undef, undef, undef, .slice ax xs.length cx, .func (.func 62) #[] #[.pointer (some ⟨w.heap.size + 1 + 1, 0, none⟩)], .int .i64 (x.1 : Int), .int .u32 (x.2 : Int), undef, undef, undef, undef, undef, undef, undef, undef, undef, undef, undef, undef], defers := [] }) ?assign ?body ?done ?stop
  case hI =>
    rintro pre W ⟨h1, h2, h3, h4, h5⟩
    refine ⟨by simp [World.cell?, h4], fun i hi => ?_⟩
    obtain ⟨g, off, rfl, hg, hcell⟩ := rx.open' (by rw [List.length_map]; omega)
    exact ⟨g, off, rfl, (h5.cell (p := ⟨g, off + i, none⟩) hg).trans (hcell i _ (map_getElem? (by omega)))⟩
  case h0 =>
    refine ⟨fun k hk => ?_, ?_, ?_, ?_, (((Below.refl _ _).alloc (Nat.le_refl _) _).alloc (by simp) _).alloc (by simp; omega) _⟩
    · have := HL.out
      simp at hk
      rw [List.drop_of_length_le (by omega), List.drop_of_length_le (by omega)]
    · rw [Below.heap_alloc _ _ _ (by simp; omega), Below.heap_alloc _ _ _ (by simp)]
      exact heap_alloc_new w _
    · rw [Below.heap_alloc _ _ _ (by simp)]
      simpa using heap_alloc_new (w.alloc (.cells #[.slice ay ys.length cy] 23)) (.cells #[.int .i64 0] 3)
    · simpa using heap_alloc_new ((w.alloc (.cells #[.slice ay ys.length cy] 23)).alloc (.cells #[.int .i64 0] 3)) (.cells #[.slice ax xs.length cx] 23)
  case assign =>
    rintro l ⟨i, xv⟩ W K hK
    dsimp only [encBack] at hK ⊢
    gi_wp2
    exact hK
  case body =>
    rintro l pre ⟨i, xv⟩ W hS hT
    obtain ⟨t1, t2, t3⟩ := hT
    simp only at t2 t3
    have hl := HL.out
    obtain ⟨g, off, rfl, hg, hcell⟩ := ry.open' (by rw [List.length_map]; omega)
    have hyi := (hS.2.2.2.2.cell (p := ⟨g, off + i, none⟩) hg).trans (hcell i _ (map_getElem? (by omega)))
    have c0 : W.cell? ⟨w.heap.size, 0, none⟩ = some (.slice (some ⟨g, off, none⟩) ys.length cy) := by simp [World.cell?, hS.2.1]
    have c1 : W.cell? ⟨w.heap.size + 1, 0, none⟩ = some (.int .i64 0) := by simp [World.cell?, hS.2.2.1]
    have f1 : W.frozen? ⟨w.heap.size + 1, 0, none⟩ = false := by simp [World.frozen?, hS.2.2.1]
    have hil : i < ys.length := by omega
    have hd := hS.1 (i + 1) (by omega)
    have hne := cmp_part hx hy hl (i := i) (by omega) hd
    have hds := drop_same (i := i) (by omega) (by omega) hd
    have HS := Lib.hid hS
    have HT := Lib.hid (And.intro t1 t2)
    rw [← t3] at hne hds
    unfold u32v at hyi
    generalize ys.getD i 0 = yv at hyi hne hds
    have HN := Lib.hid hne
    have HD := Lib.hid hds
    clear hS t1 t2 t3 hl hcell hd hne hds
    by_cases hxy : xv = yv
    · subst hxy
      have HD2 := Lib.hid (HD.out rfl)
      clear HD HN
      have hb2 : ((xv : Int) != (xv : Int)) = false := by simp
      gi_wp2
      exact ⟨KeepsFrom.refl _ _, fun k hk => by
        have h2 := HT.out.2
        simp at hk
        obtain rfl : k = i := by omega
        exact HD2.out, HS.out.2⟩
    · have hb2 : ((xv : Int) != (yv : Int)) = true := by rw [bne_iff_ne]; omega
      have HN2 := Lib.hid (HN.out hxy)
      clear HN HD
      gi_wp2_with fail
      refine ⟨trivial, ?_⟩
      refine (CallsIn.inRound l (callsIn_wide.2 (cmpU32_any _ _ _))).mono ?_
      rintro e w' ⟨rfl, rfl⟩
      gi_wp2_with fail
      refine ⟨(KeepsOthers.setCell _ _ _).from _, rfl, ?_, HS.out.2.2.2.2.setCell (p := ⟨w.heap.size + 1, 0, none⟩) (by simp) _⟩
      rw [HN2.out]
      exact set_one _ HS.out.2.2.1
  case done =>
    rintro D zs W hD hys hS hK
    have c1 : W.cell? ⟨w.heap.size + 1, 0, none⟩ = some (.int .i64 0) := by simp [World.cell?, hS.2.2.1]
    have f1 : W.frozen? ⟨w.heap.size + 1, 0, none⟩ = false := by simp [World.frozen?, hS.2.2.1]
    have HS := Lib.hid hS
    have HK := Lib.hid hK
    have HY := Lib.hid hys
    clear hS hK hys
    gi_wp2
    have hD' : w.heap.size + 1 < D := by simp at hD; omega
    have hK' : (W.setCell ⟨w.heap.size + 1, 0, none⟩ (.int .i64 0)).heap[D]? = some (.deferred (some [])) := by
      rw [Below.heap_setCell _ _ _ _ (by simp; omega)]; exact HK.out
    have hr : (W.setCell ⟨w.heap.size + 1, 0, none⟩ (.int .i64 0)).heap[w.heap.size + 1]? = some (.cells #[.int .i64 0] 3 (0, 0)) := set_one _ HS.out.2.2.1
    have hc5 : ((W.setCell ⟨w.heap.size + 1, 0, none⟩ (.int .i64 0)).putObj D (.deferred none)).cell? ⟨w.heap.size + 1, 0, none⟩ = some (.int .i64 0) := by
      simp only [World.cell?]
      rw [World.putObj_heap_other (by omega), hr]
      rfl
    refine ⟨by simp, .inl ⟨_, _, rfl, run_takeDeferred hK', ?_⟩⟩
    refine ⟨.int .i64 0, ?_, ?_, ?_⟩
    · simp [results, Tryd.f37, go_sem, hc5]
    · have h0 := HS.out.1 0 (by have := HY.out; omega)
      rw [List.drop_zero, List.drop_zero] at h0
      rw [h0]
      unfold cmpI
      rw [if_neg (by omega), if_pos rfl]
    · exact (HS.out.2.2.2.2.setCell (p := ⟨w.heap.size + 1, 0, none⟩) (by simp) _).trans (belowK_b (w := w) (Nat.le_refl _) _ D _ _ (by omega) hK' rfl rfl)
  case stop =>
    rintro D c pre W hD _ ⟨rfl, hr, hB⟩ hK
    have hD' : w.heap.size + 1 < D := by simp at hD; omega
    have HR := Lib.hid hr
    clear hr
    gi_wp2
    have hc5 : (W.putObj D (.deferred none)).cell? ⟨w.heap.size + 1, 0, none⟩ = some (.int .i64 (cmpI (V xs) (V ys))) := by
      simp only [World.cell?]
      rw [World.putObj_heap_other (by omega), HR.out]
      rfl
    refine ⟨by simp, .inl ⟨_, _, rfl, run_takeDeferred hK, ?_⟩⟩
    refine ⟨.int .i64 (cmpI (V xs) (V ys)), ?_, rfl, ?_⟩
    · simp [results, Tryd.f37, go_sem, hc5]
    · exact hB.trans (belowK_b (w := w) (Nat.le_refl _) W D _ _ (by omega) hK rfl rfl)

theorem lt_of_len {n m : Nat} (h : (L n).length < (L m).length) : n < m := by
  have h1 : n < 4294967296 ^ (L n).length := (L_len n _).1 (Nat.le_refl _)
  have h2 : ¬ m < 4294967296 ^ (L n).length := fun hm => by have := (L_len m _).2 hm; omega
  omega
theorem cmp_len {n m : Nat} (h : (L n).length ≠ (L m).length) : cmpI (L n).length (L m).length = cmpI n m := by
  unfold cmpI
  rcases Nat.lt_or_gt_of_ne h with h | h
  · have := lt_of_len h
    rw [if_pos (by omega), if_pos (by omega)]
  · have := lt_of_len h
    rw [if_neg (by omega), if_neg (by omega), if_neg (by omega), if_neg (by omega)]

/-- compare, said of numbers. -/
theorem compare_num (ax ay : Option Addr) (cx cy n m : Nat) (w : World) (hx : NumAt w ax cx n) (hy : NumAt w ay cy m) (lx : (L n).length ≤ 1073741824) :
    Calls Tryd.prog 37 #[.slice ax (L n).length cx, .slice ay (L m).length cy] w (GivesInt (cmpI n m) w) := by
  by_cases h : (L n).length = (L m).length
  · have := compare_same ax ay cx cy (L n) (L m) w (L_lim n) (L_lim m) h.symm hx.1 hy.1 lx
    rwa [V_L, V_L] at this
  · have := compare_len ax ay (L n).length (L m).length cx cy w h
    rwa [cmp_len h] at this

theorem cutAt_len (xs : List Nat) (hx : Lim xs) : (L (V xs)).length ≤ xs.length := by
  have hs : strip xs = L (V xs) := strip_eq (by omega) hx
  rw [← hs, strip_length]
  exact cutAt_le _ _

set_option maxRecDepth 100000 in
set_option maxHeartbeats 400000 in
theorem Cmp_any (ax ay : Option Addr) (xs ys : List Nat) (cx cy : Nat) (w : World) (hx : Lim xs) (hy : Lim ys) (rx : Reads w ax (xs.map u32v)) (ry : Reads w ay (ys.map u32v)) (lx : xs.length ≤ 1073741824)
    (hcx : xs.length ≤ cx) (hmx : cx ≤ maxLen) (hcy : ys.length ≤ cy) (hmy : cy ≤ maxLen) :
    Calls Tryd.prog 25 #[.slice ax xs.length cx, .slice ay ys.length cy] w (GivesInt (cmpI (V xs) (V ys)) w) := by
  have hl := cutAt_len xs hx
  go_enter Tryd.func25, Tryd.ntmps25
  go_wp2_with fail
  refine (trim_num ax xs cx w hx rx hcx hmx).mono ?_
  rintro e w' ⟨a1, c1, rfl, n1, rfl⟩
  go_wp2_with fail
  refine (trim_num ay ys cy w hy ry hcy hmy).mono ?_
  rintro e w' ⟨a2, c2, rfl, n2, rfl⟩
  go_wp2_with fail
  refine (compare_num a1 a2 c1 c2 (V xs) (V ys) w n1 n2 (by omega)).mono ?_
  rintro e w' ⟨rfl, hb⟩
  go_wp2_with fail
  go_ret
  exact ⟨rfl, hb⟩
end Go.Proofs.YtaiemcacpimcjaaDoor
