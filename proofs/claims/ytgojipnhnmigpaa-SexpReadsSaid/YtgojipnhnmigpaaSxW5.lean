/-
  Layer 8: the walk: survey; Deep.
-/
import Derived.Test.YtgojipnhnmigpaaSxW4
import Derived.Test.YtgojipnhnmigpaaSxSame
set_option linter.unusedVariables false
set_option linter.unusedSimpArgs false
namespace Go.Proofs.Ytgojipnhnmigpaa
open Go.RowKit Sx

theorem zero_walk : (Try.prog.info? 72).map (fun i => (i.zero, i.size)) = some (some (.agg #[.slice none 0 0, .map none]), 2) := by kernel_rfl
theorem build_walk {o : Oper} {a : Act} {w : World} {x : Operand} {m : Option Nat} (ho : o.op = .build 72 #[(1, x)]) (hx : a.eval x = .map m) :
    (execOp a.eval o).run Try.prog w = .ok (.value (.agg #[.slice none 0 0, .map m])) w := by
  have hz := (zero_of_info zero_walk).1 w
  have e1 : ∀ w, (sizeOf 70).run Try.prog w = .ok 1 w := fun w => size_of (by kernel_rfl) w
  have e3 : ∀ w, (sizeOf 69).run Try.prog w = .ok 1 w := fun w => size_of (by kernel_rfl) w
  have : (Instr.build 72 #[(1, .map m)]).run Try.prog w = .ok (.agg #[.slice none 0 0, .map m]) w := by
    simp [Instr.build, hz, run_underlying Try.underlying72, e1, e3, Instr.fill, Value.cells]
  unfold execOp
  simp [ho, hx, this]
/-- A walk's beginning. -/
theorem walk_new {w : World} {l : Bool} {K P : Int} {T : ByteArray} {v : Value} {k : Fo} (hv : SlAt w anyB v k) (X : Array Value) (hX : X = #[.bool l, .int .i64 K, .string T, .int .i64 P, v]) {Wb : World}
    (hW : Wb = (((w.alloc (.cells X 38)).alloc (.map #[] 0)).alloc (.cells #[.slice none 0 0, .map (some (w.heap.size + 1))] 72)).alloc (.cells X 38)) :
    WSt (w.heap.size + 4) (w.heap.size + 2) (w.heap.size + 1) Wb [] (.slice none 0 0) [] ∧ SlAt Wb (Old (w.heap.size + 4) (w.heap.size + 2) (w.heap.size + 1)) (.slice (some ⟨w.heap.size + 3, 0, none⟩) 1 1) (.one l ⟨K, T, P⟩ k) ∧ Below w.heap.size w Wb ∧ Wb.heap.size = w.heap.size + 4 := by
  have hb : Below w.heap.size w Wb := by
    rw [hW]
    exact ((((Below.refl _ _).alloc (Nat.le_refl _) _).alloc (by simp) _).alloc (by simp; omega) _).alloc (by simp; omega) _
  have hs : Wb.heap.size = w.heap.size + 4 := by rw [hW]; simp
  have hR : Wb.heap[w.heap.size + 2]? = some (.cells #[.slice none 0 0, .map (some (w.heap.size + 1))] 72 (0, 0)) := by
    rw [hW, Below.heap_alloc _ _ _ (by simp)]
    have := heap_alloc_last ((w.alloc (.cells X 38)).alloc (.map #[] 0)) (.cells #[.slice none 0 0, .map (some (w.heap.size + 1))] 72)
    simpa using this
  have hm : Wb.heap[w.heap.size + 1]? = some (.map #[] 0) := by
    rw [hW, Below.heap_alloc _ _ _ (by simp), Below.heap_alloc _ _ _ (by simp)]
    have := heap_alloc_last (w.alloc (.cells X 38)) (.map #[] 0)
    simpa using this
  have hx : Wb.heap[w.heap.size + 3]? = some (.cells X 38 (0, 0)) := by
    rw [hW]
    have := heap_alloc_last (((w.alloc (.cells X 38)).alloc (.map #[] 0)).alloc (.cells #[.slice none 0 0, .map (some (w.heap.size + 1))] 72)) (.cells X 38)
    simpa using this
  refine ⟨⟨hR, World.ownsRow_nil _ _ _ _, ⟨⟨#[], 0, hm, rfl⟩, by simp⟩, by simp, by omega, by omega, by simp⟩, ⟨_, 1, X.toList, rfl, by simp [Fo.one, Fo.len], by unfold maxLen; omega, by simp, .inr ⟨w.heap.size + 3, X, rfl, ⟨by omega, by omega, by omega⟩, hx, ?_⟩, ?_⟩, hb, hs⟩
  · rw [hX]
    rfl
  · rw [hX]
    exact FoAt.single (l := l) (t := ⟨K, T, P⟩) ((hv.mono (G := Old (w.heap.size + 4) (w.heap.size + 2) (w.heap.size + 1)) (fun k _ hk => ⟨by omega, by omega, by omega⟩)).kept hb)
theorem such_any {w : World} {K P : Int} {T : ByteArray} : Calls Try.prog 19 #[.agg #[.int .i64 K, .string T, .int .i64 P]] w (fun e w' => e = .returned (.bool true) ∧ w' = w.alloc (.cells #[.int .i64 K, .string T, .int .i64 P] 35)) := by
  go_enter Try.func19, Try.ntmps19
  go_wp2_with fail
  go_ret
  exact ⟨rfl, rfl⟩
section
variable {B R m : Nat} {W W' : World} {path : List Sp} {pv : Value} {M : List ((Nat × Nat) × Int)} {s : Sp} {root : Fo}
theorem WSt.len (h : WSt B R m W path pv M) : ∃ a c, pv = .slice a path.length c := by
  obtain ⟨_, ⟨rfl, e⟩ | ⟨g, cap, cur, rfl, _⟩⟩ := h.row
  · exact ⟨none, 0, by rw [e]⟩
  · exact ⟨_, cap, rfl⟩
theorem at_past : ∀ (x : Fo) (i : Nat), x.len ≤ i → x.at? i = none
  | .nil, _, _ => rfl
  | .cons _ _ _ _, 0, h => by simp [Fo.len] at h
  | .cons _ _ _ r, i + 1, h => at_past r i (by simpa [Fo.len] using h)
/-- A kid is visited. -/
theorem visit_all (h : WSt B R m W (s :: path) pv M) (hg : Good8 B R m W root (s :: path) M) (hr : root.deep ≤ 1000000) {l : Bool} {K P : Int} {T : ByteArray} {v : Value} {k : Fo} (ha : s.k.at? s.i = some (l, ⟨K, T, P⟩, k)) (hs : SlAt W (Old B R m) v k) (hi : s.i < 9223372036854775807) :
    Calls Try.prog 25 #[.pointer (some ⟨R, 0, none⟩), .agg #[.bool l, .int .i64 K, .string T, .int .i64 P, v]] W
      (fun e w' => e = .returned (.tuple #[]) ∧ ∃ s' path' pv' M', WSt B R m w' (s' :: path') pv' M' ∧ Good8 B R m w' root (s' :: path') M' ∧ mes8 (s' :: path') < mes8 (s :: path) ∧ Chg (Own8 B R m) W w') := by
  have hsm := hg.small hr
  have hkd := Fo.at_deep ha
  cases l with
  | false =>
    obtain ⟨a, c, rfl, _⟩ := hs.value
    refine (visit_leaf h (by omega) hi).mono ?_
    rintro e w' ⟨rfl, h1, h2⟩
    obtain ⟨p1, p2⟩ := (hg.turn h2).put ha (d := 0) rfl
    exact ⟨rfl, _, _, _, _, h1, p1, p2, h2⟩
  | true =>
    simp only [if_true] at hkd
    by_cases hk : k.len = 0
    · obtain ⟨a, c, rfl, _⟩ := hs.value
      rw [hk]
      refine (visit_empty h (by omega) hi).mono ?_
      rintro e w' ⟨rfl, h1, h2⟩
      obtain ⟨p1, p2⟩ := (hg.turn h2).put ha (d := 1) (by rw [Fo.len_zero hk]; rfl)
      exact ⟨rfl, _, _, _, _, h1, p1, p2, h2⟩
    · have hk' : 0 < k.len := Nat.pos_of_ne_zero hk
      obtain ⟨g, c, rfl, _, _⟩ := hs.first hk'
      obtain ⟨n, hn⟩ : ∃ n, k.len = n := ⟨_, rfl⟩
      rw [hn] at hs hk' ⊢
      cases hlk : look M (g, n) with
      | none =>
        refine (visit_new h (by omega) hs hk' hlk).mono ?_
        rintro e w' ⟨rfl, pv', h1, h2⟩
        obtain ⟨p1, p2⟩ := (hg.turn h2).enter ha (hs.turn h2 (fun _ h _ => old_own h) (fun _ h _ => h)) hk'
        exact ⟨rfl, _, _, _, _, h1, p1, p2, h2⟩
      | some d =>
        obtain rfl := hg.deep_known ha hs hlk
        refine (visit_known h (by omega) hi hk' (hs.blk hk').2.1 hlk (by omega)).mono ?_
        rintro e w' ⟨rfl, h1, h2⟩
        obtain ⟨p1, p2⟩ := (hg.turn h2).put ha (d := k.deep + 1) rfl
        exact ⟨rfl, _, _, _, _, h1, p1, p2, h2⟩
set_option maxRecDepth 100000 in
set_option maxHeartbeats 16000000 in
theorem survey_any {w : World} {l : Bool} {K P : Int} {T : ByteArray} {v : Value} {k : Fo} (hv : SlAt w anyB v k) (hd : (Fo.one l ⟨K, T, P⟩ k).deep ≤ 1000000) :
    Calls Try.prog 18 #[.agg #[.bool l, .int .i64 K, .string T, .int .i64 P, v], .func (.func 19) #[] #[]] w (fun e w' => e = .returned (.tuple #[.int .i64 ((Fo.one l ⟨K, T, P⟩ k).deep : Int), .bool true]) ∧ Below w.heap.size w w') := by
  obtain ⟨a, c, rfl, hc1, hc2, hc3⟩ := hv.value
  obtain ⟨n, hn⟩ : ∃ n, k.len = n := ⟨_, rfl⟩
  obtain ⟨Wb, hWb⟩ : ∃ Wb, Wb = (((w.alloc (.cells #[.bool l, .int .i64 K, .string T, .int .i64 P, .slice a n c] 38)).alloc (.map #[] 0)).alloc (.cells #[.slice none 0 0, .map (some (w.heap.size + 1))] 72)).alloc (.cells #[.bool l, .int .i64 K, .string T, .int .i64 P, .slice a n c] 38) := ⟨_, rfl⟩
  rw [hn] at hv ⊢
  obtain ⟨n1, n2, n3, n4⟩ := walk_new hv _ rfl hWb
  obtain ⟨root, hroot⟩ : ∃ root, Fo.one l ⟨K, T, P⟩ k = root := ⟨_, rfl⟩
  rw [hroot] at n2 hd ⊢
  have HENT := Lib.hid (enter_any n1 n2 (by omega) (by simp))
  obtain ⟨B, hB⟩ : ∃ B, w.heap.size + 4 = B := ⟨_, rfl⟩
  have HG0 : Hid (∀ W', Chg (Own8 (w.heap.size + 4) (w.heap.size + 2) (w.heap.size + 1)) Wb W' → Good8 (w.heap.size + 4) (w.heap.size + 2) (w.heap.size + 1) W' root [⟨.slice (some ⟨w.heap.size + 3, 0, none⟩) 1 1, root, 0, 0⟩] (upd [] (w.heap.size + 3, 1) 9223372036854775807)) := Lib.hid (by
    intro W' hc
    refine ⟨.one rfl, fun x hx => ?_, fun g n d hd => ?_⟩
    · simp at hx
      subst hx
      exact ⟨Nat.zero_le _, (Fo.deepTo_zero _).symm, by rw [← hroot]; simp [Fo.one, Fo.len]⟩
    · have hp : (g, n) = (w.heap.size + 3, 1) ∧ d = 9223372036854775807 := by
        simp only [upd, look] at hd
        split at hd
        · rename_i h; exact ⟨h, by cases hd; rfl⟩
        · cases hd
      obtain ⟨h1, rfl⟩ := hp
      cases h1
      exact ⟨root, 1, n2.turn hc (fun _ h _ => old_own h) (fun _ h _ => h), by omega, .inr ⟨rfl, _, List.mem_cons_self, 1, rfl, rfl⟩⟩)
  have HR := Lib.hid hd
  have HN3 := Lib.hid (And.intro n3 n4)
  clear hv hd hc1 hc2 hc3 hn n1 n2 n3 n4 hroot
  go_enter Try.func18, Try.ntmps18
  have hmm := @run_makeMap Try.prog
  go_wp2_with (first | (refine wpList_val (.agg #[.slice none 0 0, .map (some (w.heap.size + 1))]) (build_walk (by with_reducible rfl) (by rfl)) (by rfl) ?_))
  rw [← hWb]
  clear hWb
  refine HENT.out.mono ?_
  rintro e w5 ⟨rfl, pv5, h5, hc5⟩
  have hi5 : ∃ N, Inv8 (w.heap.size + 4) (w.heap.size + 2) (w.heap.size + 1) Wb root N w5 := ⟨_, _, _, _, _, h5, HG0.out w5 hc5, rfl, hc5⟩
  obtain ⟨R, hR⟩ : ∃ R, w.heap.size + 1 + 1 = R := ⟨_, rfl⟩
  obtain ⟨m, hm⟩ : ∃ m, w.heap.size + 1 = m := ⟨_, rfl⟩
  simp only [hR]
  rw [show w.heap.size + 2 = R from hR, hm, hB] at hi5
  have HI5 := Lib.hid hi5
  have HEQ := Lib.hid (And.intro hR (And.intro hm hB))
  clear hi5 hR hm hB h5 hc5 HG0 HENT
  go_wp2_with fail
  go_loopw [] (fun (wr : World) => Hid (∃ N, Inv8 B R m Wb root N wr)) (fun wr => least (Inv8 B R m Wb root) wr)
  case atStart => exact HI5
  case round =>
    have hI := least_spec hrel.out
    obtain ⟨s, path, pv, M, hst, hgood, hmes, hchg⟩ := hI
    have HMES := Lib.hid hmes
    obtain ⟨q, hq⟩ : ∃ q, path.length = q := ⟨_, rfl⟩
    obtain ⟨pg, pc, rfl, hBg, hgl, hnc⟩ := hst.value (n := q) (by rw [List.length_cons, hq])
    obtain ⟨hl, hfz⟩ := hst.last hq
    have hks := hst.kids s List.mem_cons_self
    have hdn := hgood.done s List.mem_cons_self
    obtain ⟨g, cc, hv, hcc, hcm⟩ := hks.first hdn.2.2
    have hsm := hgood.small HR.out
    obtain ⟨sv, sk, si, sd⟩ := s
    dsimp only at hl hks hdn hv hcc hcm hsm
    subst hv
    obtain ⟨n2, hn2⟩ : ∃ n, sk.len = n := ⟨_, rfl⟩
    rw [hn2] at hl hks hdn hcc hst hgood hmes HMES
    have x0 : wr.cell? ⟨pg, q * 3, none⟩ = some (.slice (some ⟨g, 0, none⟩) n2 cc) := hl 0 _ rfl
    have x1 : wr.cell? ⟨pg, q * 3 + 1, none⟩ = some (.int .i64 (si : Int)) := hl 1 _ rfl
    have HX := Lib.hid (And.intro hst.cells.1 (And.intro x0 x1))
    have HS := Lib.hid (And.intro hst (And.intro hgood (And.intro hchg (And.intro hks hn2))))
    have HK := Lib.hid (And.intro hdn (And.intro hsm (And.intro hq (And.intro hcc hcm))))
    clear hst hgood hmes hchg hq hBg hgl hnc hl hfz hks hdn hcc hcm hsm hn2 x0 x1
    go_wp2_with fail
    refine wp_region_held_drew (S := (fun w' => w'.cell? ⟨R, 0, none⟩ = some (.slice (some ⟨pg, 0, none⟩) (q + 1) pc))) (by kernel_rfl) ?_ (fun hHeld => ?_)
    · exact HX.out.1
    refine wpAnyH_take (i := 0) (v := ?_) (by rfl) (by kernel_rfl) (by kernel_rfl) (by kernel_rfl) (by exact fun _ _ _ h => h) (Or.inl ⟨by rfl, ?_⟩) hHeld ?_
    rotate_left 1
    · intro w' hSw
      (try dsimp only at hSw)
      go_simp
      try with_reducible rfl
    try simp only [Act.put, List.setIfInBounds_toArray, List.set_cons_zero, List.set_cons_succ, List.getElem_toArray, List.getElem_cons_zero, List.getElem_cons_succ]
    refine wpAnyH_take (i := 1) (v := ?_) (by rfl) (by kernel_rfl) (by kernel_rfl) (by kernel_rfl) (by exact fun _ _ _ h => h) (Or.inl ⟨by rfl, ?_⟩) hHeld ?_
    rotate_left 1
    · intro w' hSw
      (try dsimp only at hSw)
      go_simp
      try with_reducible rfl
    try simp only [Act.put, List.setIfInBounds_toArray, List.set_cons_zero, List.set_cons_succ, List.getElem_toArray, List.getElem_cons_zero, List.getElem_cons_succ]
    refine wpAnyH_take (i := 2) (v := ?_) (by rfl) (by kernel_rfl) (by kernel_rfl) (by kernel_rfl) (by exact fun _ _ _ h => h) (Or.inl ⟨by rfl, ?_⟩) hHeld ?_
    rotate_left 1
    · intro w' hSw
      (try dsimp only at hSw)
      go_simp
      try with_reducible rfl
    try simp only [Act.put, List.setIfInBounds_toArray, List.set_cons_zero, List.set_cons_succ, List.getElem_toArray, List.getElem_cons_zero, List.getElem_cons_succ]
    refine wpAnyH_take (i := 3) (v := .slice (some ⟨pg, 0, none⟩) (q + 1) pc) (by rfl) (by kernel_rfl) (by kernel_rfl) (by kernel_rfl) (by exact fun _ _ _ h => h) (Or.inl ⟨by rfl, ?_⟩) hHeld ?_
    · intro w' hSw
      exact load_way (.tmp 19) rfl rfl hSw
    try simp only [Act.put, List.setIfInBounds_toArray, List.set_cons_zero, List.set_cons_succ, List.getElem_toArray, List.getElem_cons_zero, List.getElem_cons_succ]
    refine wpAnyH_take (i := 4) (v := ?_) (by rfl) (by kernel_rfl) (by kernel_rfl) (by kernel_rfl) (by exact fun _ _ _ h => h) (Or.inl ⟨by rfl, ?_⟩) hHeld ?_
    rotate_left 1
    · intro w' hSw
      (try dsimp only at hSw)
      go_simp
      try with_reducible rfl
    try simp only [Act.put, List.setIfInBounds_toArray, List.set_cons_zero, List.set_cons_succ, List.getElem_toArray, List.getElem_cons_zero, List.getElem_cons_succ]
    refine wpAnyH_take (i := 5) (v := ?_) (by rfl) (by kernel_rfl) (by kernel_rfl) (by kernel_rfl) (by exact fun _ _ _ h => h) (Or.inl ⟨by rfl, ?_⟩) hHeld ?_
    rotate_left 1
    · intro w' hSw
      (try dsimp only at hSw)
      go_simp
      try with_reducible rfl
    try simp only [Act.put, List.setIfInBounds_toArray, List.set_cons_zero, List.set_cons_succ, List.getElem_toArray, List.getElem_cons_zero, List.getElem_cons_succ]
    refine wpAnyH_take (i := 6) (v := ?_) (by rfl) (by kernel_rfl) (by kernel_rfl) (by kernel_rfl) (by exact fun _ _ _ h => h) (Or.inl ⟨by rfl, ?_⟩) hHeld ?_
    rotate_left 1
    · intro w' hSw
      (try dsimp only at hSw)
      go_simp
      try with_reducible rfl
    try simp only [Act.put, List.setIfInBounds_toArray, List.set_cons_zero, List.set_cons_succ, List.getElem_toArray, List.getElem_cons_zero, List.getElem_cons_succ]
    refine wpAnyH_take (i := 7) (v := .slice (some ⟨pg, 0, none⟩) (q + 1) pc) (by rfl) (by kernel_rfl) (by kernel_rfl) (by kernel_rfl) (by exact fun _ _ _ h => h) (Or.inl ⟨by rfl, ?_⟩) hHeld ?_
    · intro w' hSw
      exact load_way (.tmp 23) rfl rfl hSw
    try simp only [Act.put, List.setIfInBounds_toArray, List.set_cons_zero, List.set_cons_succ, List.getElem_toArray, List.getElem_cons_zero, List.getElem_cons_succ]
    refine wpAnyH_take (i := 8) (v := ?_) (by rfl) (by kernel_rfl) (by kernel_rfl) (by kernel_rfl) (by exact fun _ _ _ h => h) (Or.inl ⟨by rfl, ?_⟩) hHeld ?_
    rotate_left 1
    · intro w' hSw
      (try dsimp only at hSw)
      go_simp
      try with_reducible rfl
    try simp only [Act.put, List.setIfInBounds_toArray, List.set_cons_zero, List.set_cons_succ, List.getElem_toArray, List.getElem_cons_zero, List.getElem_cons_succ]
    refine wpAnyH_take (i := 9) (v := .int .i64 (q : Int)) (by rfl) (by kernel_rfl) (by kernel_rfl) (by kernel_rfl) (by exact fun _ _ _ h => h) (Or.inl ⟨by rfl, ?_⟩) hHeld ?_
    · intro w' hSw
      exact sub_one rfl rfl rfl (by have := HK.out; omega)
    try simp only [Act.put, List.setIfInBounds_toArray, List.set_cons_zero, List.set_cons_succ, List.getElem_toArray, List.getElem_cons_zero, List.getElem_cons_succ]
    refine wpAnyH_take (i := 10) (v := .pointer (some ⟨pg, q * 3, none⟩)) (by rfl) (by kernel_rfl) (by kernel_rfl) (by kernel_rfl) (by exact fun _ _ _ h => h) (Or.inl ⟨by rfl, ?_⟩) hHeld ?_
    · intro w' hSw
      exact idx_step rfl rfl rfl (by omega)
    try simp only [Act.put, List.setIfInBounds_toArray, List.set_cons_zero, List.set_cons_succ, List.getElem_toArray, List.getElem_cons_zero, List.getElem_cons_succ]
    refine wpAnyH_take (i := 11) (v := ?_) (by rfl) (by kernel_rfl) (by kernel_rfl) (by kernel_rfl) (by exact fun _ _ _ h => h) (Or.inl ⟨by rfl, ?_⟩) hHeld ?_
    rotate_left 1
    · intro w' hSw
      (try dsimp only at hSw)
      go_simp
      try with_reducible rfl
    try simp only [Act.put, List.setIfInBounds_toArray, List.set_cons_zero, List.set_cons_succ, List.getElem_toArray, List.getElem_cons_zero, List.getElem_cons_succ]
    refine wpAnyH_done (by kernel_rfl) ?_ _
    clear hHeld
    go_wp2_with fail
    refine wp_region_held_drew (S := (fun w' => w'.cell? ⟨pg, q * 3, none⟩ = some (.slice (some ⟨g, 0, none⟩) n2 cc) ∧ w'.cell? ⟨pg, q * 3 + 1, none⟩ = some (.int .i64 (si : Int)))) (by kernel_rfl) ?_ (fun hHeld => ?_)
    · exact HX.out.2
    refine wpAnyH_take (i := 0) (v := ?_) (by rfl) (by kernel_rfl) (by kernel_rfl) (by kernel_rfl) (by exact fun _ _ _ h => h) (Or.inl ⟨by rfl, ?_⟩) hHeld ?_
    rotate_left 1
    · intro w' hSw
      (try dsimp only at hSw)
      go_simp
      try with_reducible rfl
    try simp only [Act.put, List.setIfInBounds_toArray, List.set_cons_zero, List.set_cons_succ, List.getElem_toArray, List.getElem_cons_zero, List.getElem_cons_succ]
    refine wpAnyH_take (i := 1) (v := ?_) (by rfl) (by kernel_rfl) (by kernel_rfl) (by kernel_rfl) (by exact fun _ _ _ h => h) (Or.inl ⟨by rfl, ?_⟩) hHeld ?_
    rotate_left 1
    · intro w' hSw
      (try dsimp only at hSw)
      go_simp
      try with_reducible rfl
    try simp only [Act.put, List.setIfInBounds_toArray, List.set_cons_zero, List.set_cons_succ, List.getElem_toArray, List.getElem_cons_zero, List.getElem_cons_succ]
    refine wpAnyH_take (i := 2) (v := ?_) (by rfl) (by kernel_rfl) (by kernel_rfl) (by kernel_rfl) (by exact fun _ _ _ h => h) (Or.inl ⟨by rfl, ?_⟩) hHeld ?_
    rotate_left 1
    · intro w' hSw
      (try dsimp only at hSw)
      go_simp
      try with_reducible rfl
    try simp only [Act.put, List.setIfInBounds_toArray, List.set_cons_zero, List.set_cons_succ, List.getElem_toArray, List.getElem_cons_zero, List.getElem_cons_succ]
    refine wpAnyH_take (i := 3) (v := .int .i64 (si : Int)) (by rfl) (by kernel_rfl) (by kernel_rfl) (by kernel_rfl) (by exact fun _ _ _ h => h) (Or.inl ⟨by rfl, ?_⟩) hHeld ?_
    · intro w' hSw
      exact load_int (.tmp 30) rfl rfl hSw.2
    try simp only [Act.put, List.setIfInBounds_toArray, List.set_cons_zero, List.set_cons_succ, List.getElem_toArray, List.getElem_cons_zero, List.getElem_cons_succ]
    refine wpAnyH_take (i := 4) (v := ?_) (by rfl) (by kernel_rfl) (by kernel_rfl) (by kernel_rfl) (by exact fun _ _ _ h => h) (Or.inl ⟨by rfl, ?_⟩) hHeld ?_
    rotate_left 1
    · intro w' hSw
      (try dsimp only at hSw)
      go_simp
      try with_reducible rfl
    try simp only [Act.put, List.setIfInBounds_toArray, List.set_cons_zero, List.set_cons_succ, List.getElem_toArray, List.getElem_cons_zero, List.getElem_cons_succ]
    refine wpAnyH_take (i := 5) (v := ?_) (by rfl) (by kernel_rfl) (by kernel_rfl) (by kernel_rfl) (by exact fun _ _ _ h => h) (Or.inl ⟨by rfl, ?_⟩) hHeld ?_
    rotate_left 1
    · intro w' hSw
      (try dsimp only at hSw)
      go_simp
      try with_reducible rfl
    try simp only [Act.put, List.setIfInBounds_toArray, List.set_cons_zero, List.set_cons_succ, List.getElem_toArray, List.getElem_cons_zero, List.getElem_cons_succ]
    refine wpAnyH_take (i := 6) (v := ?_) (by rfl) (by kernel_rfl) (by kernel_rfl) (by kernel_rfl) (by exact fun _ _ _ h => h) (Or.inl ⟨by rfl, ?_⟩) hHeld ?_
    rotate_left 1
    · intro w' hSw
      (try dsimp only at hSw)
      go_simp
      try with_reducible rfl
    try simp only [Act.put, List.setIfInBounds_toArray, List.set_cons_zero, List.set_cons_succ, List.getElem_toArray, List.getElem_cons_zero, List.getElem_cons_succ]
    refine wpAnyH_take (i := 7) (v := .slice (some ⟨g, 0, none⟩) n2 cc) (by rfl) (by kernel_rfl) (by kernel_rfl) (by kernel_rfl) (by exact fun _ _ _ h => h) (Or.inl ⟨by rfl, ?_⟩) hHeld ?_
    · intro w' hSw
      exact load_sl (.tmp 34) rfl rfl hSw.1
    try simp only [Act.put, List.setIfInBounds_toArray, List.set_cons_zero, List.set_cons_succ, List.getElem_toArray, List.getElem_cons_zero, List.getElem_cons_succ]
    refine wpAnyH_take (i := 8) (v := ?_) (by rfl) (by kernel_rfl) (by kernel_rfl) (by kernel_rfl) (by exact fun _ _ _ h => h) (Or.inl ⟨by rfl, ?_⟩) hHeld ?_
    rotate_left 1
    · intro w' hSw
      (try dsimp only at hSw)
      go_simp
      try with_reducible rfl
    try simp only [Act.put, List.setIfInBounds_toArray, List.set_cons_zero, List.set_cons_succ, List.getElem_toArray, List.getElem_cons_zero, List.getElem_cons_succ]
    refine wpAnyH_take (i := 9) (v := ?_) (by rfl) (by kernel_rfl) (by kernel_rfl) (by kernel_rfl) (by exact fun _ _ _ h => h) (Or.inl ⟨by rfl, ?_⟩) hHeld ?_
    rotate_left 1
    · intro w' hSw
      (try dsimp only at hSw)
      go_simp
      try with_reducible rfl
    try simp only [Act.put, List.setIfInBounds_toArray, List.set_cons_zero, List.set_cons_succ, List.getElem_toArray, List.getElem_cons_zero, List.getElem_cons_succ]
    refine wpAnyH_done (by kernel_rfl) ?_ _
    clear hHeld
    by_cases hin : si < n2
    · have hin' : (si : Int) < (n2 : Int) := by omega
      obtain ⟨l2, ⟨K2, T2, P2⟩, k2, hat⟩ := Fo.at_some sk si (by rw [HS.out.2.2.2.2]; exact hin)
      have hks := HS.out.2.2.2.1
      rw [← HS.out.2.2.2.2] at hks
      obtain ⟨g', v2, hgg, _, hs2, hx2⟩ := hks.get hat
      simp only [Option.some.injEq, Addr.mk.injEq, and_true] at hgg
      subst hgg
      obtain ⟨a2, c2, rfl, _⟩ := hs2.value
      obtain ⟨n3, hn3⟩ : ∃ n, k2.len = n := ⟨_, rfl⟩
      rw [hn3] at hs2 hx2
      have hx3 : wr.rangeAt g (si * 5) [.bool l2, .int .i64 K2, .string T2, .int .i64 P2, .slice a2 n3 c2] := hx2
      have HA := Lib.hid (And.intro hat (And.intro hs2 hx3))
      have hone : (#[Value.bool l2, .int .i64 K2, .string T2, .int .i64 P2, .slice a2 n3 c2] : Array Value).all (·.oneCell') = true := by simp [Value.oneCell']
      have zs := fun w => (zero_of_info zero_sexp).1 w
      have b5 : Below wr.heap.size wr (wr.drew.drew.drew.alloc (.cells #[.bool l2, .int .i64 K2, .string T2, .int .i64 P2, .slice a2 n3 c2] 38)) := (((Below.refl _ _).drew).drew).drew.alloc (Nat.le_refl _) _
      have HBX := Lib.hid (And.intro b5 (show (wr.drew.drew.drew.alloc (.cells #[.bool l2, .int .i64 K2, .string T2, .int .i64 P2, .slice a2 n3 c2] 38)).rangeAt wr.heap.size 0 [.bool l2, .int .i64 K2, .string T2, .int .i64 P2, .slice a2 n3 c2] from rangeAt_new wr.drew.drew.drew [.bool l2, .int .i64 K2, .string T2, .int .i64 P2, .slice a2 n3 c2] 38))
      clear hat hks hs2 hx2 hx3 hn3 b5
      go_wp2_with fail
      refine wp_region_held_drew (S := (fun w' => w'.cell? ⟨pg, q * 3, none⟩ = some (.slice (some ⟨g, 0, none⟩) n2 cc) ∧ w'.cell? ⟨pg, q * 3 + 1, none⟩ = some (.int .i64 (si : Int)) ∧ w'.rangeAt g (si * 5) [.bool l2, .int .i64 K2, .string T2, .int .i64 P2, .slice a2 n3 c2])) (by kernel_rfl) ?_ (fun hHeld => ?_)
      · exact ⟨HX.out.2.1, HX.out.2.2, HA.out.2.2⟩
      refine wpAnyH_take (i := 0) (v := ?_) (by rfl) (by kernel_rfl) (by kernel_rfl) (by kernel_rfl) (by exact fun _ _ _ h => h) (Or.inl ⟨by rfl, ?_⟩) hHeld ?_
      rotate_left 1
      · intro w' hSw
        (try dsimp only at hSw)
        go_simp
        try with_reducible rfl
      try simp only [Act.put, List.setIfInBounds_toArray, List.set_cons_zero, List.set_cons_succ, List.getElem_toArray, List.getElem_cons_zero, List.getElem_cons_succ]
      refine wpAnyH_take (i := 1) (v := ?_) (by rfl) (by kernel_rfl) (by kernel_rfl) (by kernel_rfl) (by exact fun _ _ _ h => h) (Or.inl ⟨by rfl, ?_⟩) hHeld ?_
      rotate_left 1
      · intro w' hSw
        (try dsimp only at hSw)
        go_simp
        try with_reducible rfl
      try simp only [Act.put, List.setIfInBounds_toArray, List.set_cons_zero, List.set_cons_succ, List.getElem_toArray, List.getElem_cons_zero, List.getElem_cons_succ]
      refine wpAnyH_take (i := 2) (v := ?_) (by rfl) (by kernel_rfl) (by kernel_rfl) (by kernel_rfl) (by exact fun _ _ _ h => h) (Or.inl ⟨by rfl, ?_⟩) hHeld ?_
      rotate_left 1
      · intro w' hSw
        (try dsimp only at hSw)
        go_simp
        try with_reducible rfl
      try simp only [Act.put, List.setIfInBounds_toArray, List.set_cons_zero, List.set_cons_succ, List.getElem_toArray, List.getElem_cons_zero, List.getElem_cons_succ]
      refine wpAnyH_take (i := 3) (v := .slice (some ⟨g, 0, none⟩) n2 cc) (by rfl) (by kernel_rfl) (by kernel_rfl) (by kernel_rfl) (by exact fun _ _ _ h => h) (Or.inl ⟨by rfl, ?_⟩) hHeld ?_
      · intro w' hSw
        exact load_sl (.tmp 40) rfl rfl hSw.1
      try simp only [Act.put, List.setIfInBounds_toArray, List.set_cons_zero, List.set_cons_succ, List.getElem_toArray, List.getElem_cons_zero, List.getElem_cons_succ]
      refine wpAnyH_take (i := 4) (v := ?_) (by rfl) (by kernel_rfl) (by kernel_rfl) (by kernel_rfl) (by exact fun _ _ _ h => h) (Or.inl ⟨by rfl, ?_⟩) hHeld ?_
      rotate_left 1
      · intro w' hSw
        (try dsimp only at hSw)
        go_simp
        try with_reducible rfl
      try simp only [Act.put, List.setIfInBounds_toArray, List.set_cons_zero, List.set_cons_succ, List.getElem_toArray, List.getElem_cons_zero, List.getElem_cons_succ]
      refine wpAnyH_take (i := 5) (v := ?_) (by rfl) (by kernel_rfl) (by kernel_rfl) (by kernel_rfl) (by exact fun _ _ _ h => h) (Or.inl ⟨by rfl, ?_⟩) hHeld ?_
      rotate_left 1
      · intro w' hSw
        (try dsimp only at hSw)
        go_simp
        try with_reducible rfl
      try simp only [Act.put, List.setIfInBounds_toArray, List.set_cons_zero, List.set_cons_succ, List.getElem_toArray, List.getElem_cons_zero, List.getElem_cons_succ]
      refine wpAnyH_take (i := 6) (v := ?_) (by rfl) (by kernel_rfl) (by kernel_rfl) (by kernel_rfl) (by exact fun _ _ _ h => h) (Or.inl ⟨by rfl, ?_⟩) hHeld ?_
      rotate_left 1
      · intro w' hSw
        (try dsimp only at hSw)
        go_simp
        try with_reducible rfl
      try simp only [Act.put, List.setIfInBounds_toArray, List.set_cons_zero, List.set_cons_succ, List.getElem_toArray, List.getElem_cons_zero, List.getElem_cons_succ]
      refine wpAnyH_take (i := 7) (v := .int .i64 (si : Int)) (by rfl) (by kernel_rfl) (by kernel_rfl) (by kernel_rfl) (by exact fun _ _ _ h => h) (Or.inl ⟨by rfl, ?_⟩) hHeld ?_
      · intro w' hSw
        exact load_int (.tmp 44) rfl rfl hSw.2.1
      try simp only [Act.put, List.setIfInBounds_toArray, List.set_cons_zero, List.set_cons_succ, List.getElem_toArray, List.getElem_cons_zero, List.getElem_cons_succ]
      refine wpAnyH_take (i := 8) (v := .pointer (some ⟨g, si * 5, none⟩)) (by rfl) (by kernel_rfl) (by kernel_rfl) (by kernel_rfl) (by exact fun _ _ _ h => h) (Or.inl ⟨by rfl, ?_⟩) hHeld ?_
      · intro w' hSw
        exact idx_sexp rfl rfl rfl hin
      try simp only [Act.put, List.setIfInBounds_toArray, List.set_cons_zero, List.set_cons_succ, List.getElem_toArray, List.getElem_cons_zero, List.getElem_cons_succ]
      refine wpAnyH_take (i := 9) (v := .agg #[.bool l2, .int .i64 K2, .string T2, .int .i64 P2, .slice a2 n3 c2]) (by rfl) (by kernel_rfl) (by kernel_rfl) (by kernel_rfl) (by exact fun _ _ _ h => h) (Or.inl ⟨by rfl, ?_⟩) hHeld ?_
      · intro w' hSw
        exact run_load_op 38 (.tmp 46) rfl g (si * 5) rfl [.bool l2, .int .i64 K2, .string T2, .int .i64 P2, .slice a2 n3 c2] _ hSw.2.2 Try.underlying38 rfl (by rw [size_sexp]; rfl)
      try simp only [Act.put, List.setIfInBounds_toArray, List.set_cons_zero, List.set_cons_succ, List.getElem_toArray, List.getElem_cons_zero, List.getElem_cons_succ]
      refine wpAnyH_ready (rs := [10]) (by kernel_rfl) (by simp) ?_
      refine AllReadyH.cons (by rfl) (fun K hK => ?_) AllReadyH.nil
      refine step_alloc_many rfl 38 rfl _ zs ?_
      refine hK.out _ _ ?_ (fun hHeld => ?_)
      · exact ⟨(World.cell?_alloc_lt wr.drew.drew.drew _ _ (World.block_lt_of_cell? _ _ HX.out.2.1)).trans HX.out.2.1, (World.cell?_alloc_lt wr.drew.drew.drew _ _ (World.block_lt_of_cell? _ _ HX.out.2.2)).trans HX.out.2.2, World.rangeAt_alloc (w := wr.drew.drew.drew) HA.out.2.2 _⟩
      clear hK K
      try simp only [Act.put, List.setIfInBounds_toArray, List.set_cons_zero, List.set_cons_succ, List.getElem_toArray, List.getElem_cons_zero, List.getElem_cons_succ]
      refine wpAnyH_ready (rs := [11]) (by kernel_rfl) (by simp) ?_
      refine AllReadyH.cons (by rfl) (fun K hK => ?_) AllReadyH.nil
      refine step_store_last rfl 38 (.tmp 8) (.tmp 47) rfl wr.drew.drew.drew _ #[.bool l2, .int .i64 K2, .string T2, .int .i64 P2, .slice a2 n3 c2] rfl rfl rfl size_sexp rfl hone ?_
      refine hK.out _ _ ?_ (fun hHeld => ?_)
      · exact ⟨(World.cell?_alloc_lt wr.drew.drew.drew _ _ (World.block_lt_of_cell? _ _ HX.out.2.1)).trans HX.out.2.1, (World.cell?_alloc_lt wr.drew.drew.drew _ _ (World.block_lt_of_cell? _ _ HX.out.2.2)).trans HX.out.2.2, World.rangeAt_alloc (w := wr.drew.drew.drew) HA.out.2.2 _⟩
      clear hK K
      try simp only [Act.put, List.setIfInBounds_toArray, List.set_cons_zero, List.set_cons_succ, List.getElem_toArray, List.getElem_cons_zero, List.getElem_cons_succ]
      refine wpAnyH_done (by kernel_rfl) ?_ _
      clear hHeld
      cases l2 with
      | false =>
        have b5 : Below wr.heap.size wr ((wr.alloc (.cells #[.bool false, .int .i64 K2, .string T2, .int .i64 P2, .slice a2 n3 c2] 38)).drew.drew.drew) := (((box_below wr _ _).drew).drew).drew
        have r5 : ((wr.alloc (.cells #[.bool false, .int .i64 K2, .string T2, .int .i64 P2, .slice a2 n3 c2] 38)).drew.drew.drew).rangeAt wr.heap.size 0 [.bool false, .int .i64 K2, .string T2, .int .i64 P2, .slice a2 n3 c2] := rangeAt_new wr [.bool false, .int .i64 K2, .string T2, .int .i64 P2, .slice a2 n3 c2] 38
        have b6 : Below wr.heap.size wr (((wr.alloc (.cells #[.bool false, .int .i64 K2, .string T2, .int .i64 P2, .slice a2 n3 c2] 38)).alloc (.cells #[.int .i64 K2, .string T2, .int .i64 P2] 35)).drew.drew.drew) := b5.alloc b5.size _
        have r6 : (((wr.alloc (.cells #[.bool false, .int .i64 K2, .string T2, .int .i64 P2, .slice a2 n3 c2] 38)).alloc (.cells #[.int .i64 K2, .string T2, .int .i64 P2] 35)).drew.drew.drew).rangeAt wr.heap.size 0 [.bool false, .int .i64 K2, .string T2, .int .i64 P2, .slice a2 n3 c2] := World.rangeAt_alloc r5 _
        obtain ⟨W6, hW6⟩ : ∃ W6, W6 = ((wr.alloc (.cells #[.bool false, .int .i64 K2, .string T2, .int .i64 P2, .slice a2 n3 c2] 38)).alloc (.cells #[.int .i64 K2, .string T2, .int .i64 P2] 35)).drew.drew.drew := ⟨_, rfl⟩
        rw [← hW6] at b6 r6
        have hc6 : Chg (Own8 B R m) wr W6 := .of_below b6
        have HV := Lib.hid (visit_all (HS.out.1.kept b6) (HS.out.2.1.turn hc6) HR.out HA.out.1 (HA.out.2.1.turn hc6 (fun _ h _ => old_own h) (fun _ h _ => h)) (by have := HK.out; dsimp only; have h63 : cc ≤ 9223372036854775807 := this.2.2.2.2; omega))
        have HE6 := Lib.hid (And.intro hc6 (And.intro r6 hW6))
        have HW6 := Lib.hid hW6
        clear b5 r5 b6 r6 hc6 hW6 hone zs
        go_wp2_with fail
        refine such_any.mono ?_
        rintro e w6 ⟨rfl, rfl⟩
        go_wp2_with (first | (rw [← HW6.out]; refine wpList_val (.agg #[.bool false, .int .i64 K2, .string T2, .int .i64 P2, .slice a2 n3 c2]) (run_load_op 38 (.tmp 8) (by with_reducible rfl) wr.heap.size 0 (by rfl) [.bool false, .int .i64 K2, .string T2, .int .i64 P2, .slice a2 n3 c2] _ HE6.out.2.1 Try.underlying38 rfl (by rw [size_sexp]; rfl)) (by rfl) ?_))
        try rw [← HW6.out]
        refine HV.out.mono ?_
        rintro e w7 ⟨rfl, s', path', pv', M', q1, q2, q3, q4⟩
        have HI : Hid (Inv8 B R m Wb root (mes8 (s' :: path')) w7 ∧ mes8 (s' :: path') < least (Inv8 B R m Wb root) wr) := Lib.hid ⟨⟨s', path', pv', M', q1, q2, rfl, (HS.out.2.2.1.step HE6.out.1).step q4⟩, by rw [← HMES.out]; exact q3⟩
        clear q1 q2 q3 q4 HV
        go_wp2_with fail
        go_roundw
        case rel => exact Lib.hid ⟨_, HI.out.1⟩
        case measure => exact least_lt HI.out.1 HI.out.2
      | true =>
        have b5 : Below wr.heap.size wr ((wr.alloc (.cells #[.bool true, .int .i64 K2, .string T2, .int .i64 P2, .slice a2 n3 c2] 38)).drew.drew.drew) := (((box_below wr _ _).drew).drew).drew
        have r5 : ((wr.alloc (.cells #[.bool true, .int .i64 K2, .string T2, .int .i64 P2, .slice a2 n3 c2] 38)).drew.drew.drew).rangeAt wr.heap.size 0 [.bool true, .int .i64 K2, .string T2, .int .i64 P2, .slice a2 n3 c2] := rangeAt_new wr [.bool true, .int .i64 K2, .string T2, .int .i64 P2, .slice a2 n3 c2] 38
        have b6 := b5
        have r6 := r5
        obtain ⟨W6, hW6⟩ : ∃ W6, W6 = (wr.alloc (.cells #[.bool true, .int .i64 K2, .string T2, .int .i64 P2, .slice a2 n3 c2] 38)).drew.drew.drew := ⟨_, rfl⟩
        rw [← hW6] at b6 r6
        have hc6 : Chg (Own8 B R m) wr W6 := .of_below b6
        have HV := Lib.hid (visit_all (HS.out.1.kept b6) (HS.out.2.1.turn hc6) HR.out HA.out.1 (HA.out.2.1.turn hc6 (fun _ h _ => old_own h) (fun _ h _ => h)) (by have := HK.out; dsimp only; have h63 : cc ≤ 9223372036854775807 := this.2.2.2.2; omega))
        have HE6 := Lib.hid (And.intro hc6 (And.intro r6 hW6))
        have HW6 := Lib.hid hW6
        clear b5 r5 b6 r6 hc6 hW6 hone zs
        go_wp2_with (first | (rw [← HW6.out]; refine wpList_val (.agg #[.bool true, .int .i64 K2, .string T2, .int .i64 P2, .slice a2 n3 c2]) (run_load_op 38 (.tmp 8) (by with_reducible rfl) wr.heap.size 0 (by rfl) [.bool true, .int .i64 K2, .string T2, .int .i64 P2, .slice a2 n3 c2] _ HE6.out.2.1 Try.underlying38 rfl (by rw [size_sexp]; rfl)) (by rfl) ?_))
        try rw [← HW6.out]
        refine HV.out.mono ?_
        rintro e w7 ⟨rfl, s', path', pv', M', q1, q2, q3, q4⟩
        have HI : Hid (Inv8 B R m Wb root (mes8 (s' :: path')) w7 ∧ mes8 (s' :: path') < least (Inv8 B R m Wb root) wr) := Lib.hid ⟨⟨s', path', pv', M', q1, q2, rfl, (HS.out.2.2.1.step HE6.out.1).step q4⟩, by rw [← HMES.out]; exact q3⟩
        clear q1 q2 q3 q4 HV
        go_wp2_with fail
        go_roundw
        case rel => exact Lib.hid ⟨_, HI.out.1⟩
        case measure => exact least_lt HI.out.1 HI.out.2
    · obtain rfl : si = n2 := by have := HK.out.1.1; omega
      have hlt : ¬ (si : Int) < (si : Int) := by omega
      have b2 : Below wr.heap.size wr wr.drew.drew := ((Below.refl _ _).drew).drew
      have HLV := Lib.hid (leave_any (HS.out.1.kept b2) HK.out.1.2.2 (by have := HK.out.2.1.1; omega))
      have HC2 : Hid (Chg (Own8 B R m) wr wr.drew.drew) := Lib.hid (.of_below b2)
      clear b2
      go_wp2_with fail
      refine HLV.out.mono ?_
      rintro e w6 ⟨rfl, pv6, h6, c6⟩
      obtain ⟨a6, cp6, rfl⟩ := h6.len
      have c60 := h6.cells.1
      have hg6 := (HS.out.2.1.turn HC2.out).turn c6
      have HCC : Hid (Chg (Own8 B R m) Wb w6) := Lib.hid ((HS.out.2.2.1.step HC2.out).step c6)
      have hq := HK.out.2.2.1
      cases path with
      | nil =>
        have HDEEP : Hid ((sd : Int) = (root.deep : Int)) := Lib.hid (by
          have h1 := hg6.way
          cases h1 with
          | one h1 =>
            have h2 := (hg6.done _ List.mem_cons_self).2.1
            dsimp only at h1 h2
            rw [h2, ← HS.out.2.2.2.2, Fo.deepTo_len, h1])
        have HBE : Hid (Below w.heap.size w w6) := Lib.hid (HN3.out.1.trans (HCC.out.below (fun k hk => by
          have h1 := HEQ.out
          rcases hk with hk | hk | hk <;> omega) HN3.out.1.size))
        simp only [List.length_nil] at c60 hq
        clear h6 hg6 hq c6 HLV
        go_wp2_with fail
        refine bodyPost_ret (v := .tuple #[.int .i64 (root.deep : Int), .bool true]) ?_ rfl ⟨rfl, HBE.out⟩
        simp [results, Try.results18, Act.put, HDEEP.out]
      | cons r path2 =>
        obtain ⟨q2, hq2⟩ : ∃ q2, path2.length = q2 := ⟨_, rfl⟩
        have hq0 : ((q2 : Int) + 1 == 0) = false := by simp; omega
        have hsm6 := hg6.small HR.out
        have hway := hg6.way
        obtain ⟨hdd, hg7, hm7⟩ := hg6.leave ((HS.out.2.2.2.1.turn HC2.out (fun _ h _ => old_own h) (fun _ h _ => h)).turn c6 (fun _ h _ => old_own h) (fun _ h _ => h)) HK.out.1.2.2 HS.out.2.2.2.2.symm
        have hri : r.i < 9223372036854775807 := by
          cases hway with
          | cons h1 h2 =>
            obtain ⟨a', c', hv', h1', h2', _⟩ := (h6.kids r List.mem_cons_self).value
            have h3 : r.i < r.k.len := by
              apply Nat.lt_of_not_le
              intro hle
              rw [at_past _ _ hle] at h1
              cases h1
            have h63 : c' ≤ 9223372036854775807 := h2'
            omega
        have HPUT := Lib.hid (wput_any (d := sd + 1) h6 (by have := HK.out.2.1; simp only [List.length_cons] at this; omega) (by have := HK.out.2.1; omega) hri)
        have HWT := Lib.hid (wth_any (w := w6) (d := sd) (by have := HK.out.2.1; omega))
        have HG7 := Lib.hid (And.intro hg7 hm7)
        simp only [List.length_cons, hq2] at c60
        clear hq2 h6 hg6 hq c6 HLV hsm6 hway hdd hg7 hm7 hri
        go_wp2_with fail
        refine HWT.out.mono ?_
        rintro e w7 ⟨rfl, rfl⟩
        go_wp2_with fail
        refine HPUT.out.mono ?_
        rintro e w8 ⟨rfl, q1, q2⟩
        have HI : Hid (Inv8 B R m Wb root (mes8 (⟨r.v, r.k, r.i + 1, max r.d (sd + 1)⟩ :: path2)) w8 ∧ mes8 (⟨r.v, r.k, r.i + 1, max r.d (sd + 1)⟩ :: path2) < least (Inv8 B R m Wb root) wr) := Lib.hid ⟨⟨_, _, _, _, q1, HG7.out.1.turn q2, rfl, HCC.out.step q2⟩, by rw [← HMES.out]; exact HG7.out.2⟩
        clear q1 q2 HPUT HG7
        go_wp2_with fail
        go_roundw
        case rel => exact Lib.hid ⟨_, HI.out.1⟩
        case measure => exact least_lt HI.out.1 HI.out.2
end
end Go.Proofs.Ytgojipnhnmigpaa
