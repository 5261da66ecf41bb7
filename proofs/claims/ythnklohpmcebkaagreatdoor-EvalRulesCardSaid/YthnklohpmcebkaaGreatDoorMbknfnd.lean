/- By program out of: TmAdds, TmSpk. -/
import Derived.Test.YthnklohpmcebkaaGreatDoorMiipned
set_option linter.unusedVariables false
set_option linter.unusedSimpArgs false
namespace Go.Proofs.YthnklohpmcebkaaGreatDoor
open Go.RowKit Tm
theorem tag_ne {w : World} {a b : Nat} {c c' : Array Value} {t t' : TypeId} {m m' : Nat × Nat} (h : w.heap[a]? = some (.cells c t m)) (h' : w.heap[b]? = some (.cells c' t' m')) (ht : t ≠ t') : a ≠ b := by
  rintro rfl
  rw [h] at h'
  cases h'
  exact ht rfl
theorem own_ne {w : World} {B b s n : Nat} {t t' : TypeId} {v : Value} {C : List Value} {c' : Array Value} {m' : Nat × Nat} (h : w.ownsRow B t s v n C) (h' : w.heap[b]? = some (.cells c' t' m')) (ht : t ≠ t') : v.ownBlock ≠ some b := fun e => by
  obtain ⟨_, cur, hc⟩ := own_tag h e
  exact tag_ne hc h' ht rfl
theorem own_ne_map {w : World} {B b s n : Nat} {t : TypeId} {v : Value} {C : List Value} {M : List (Int × Value)} (h : w.ownsRow B t s v n C) (h' : IM w b M) : v.ownBlock ≠ some b := fun e => by
  obtain ⟨_, cur, hc⟩ := own_tag h e
  exact h'.ne hc rfl
theorem own_lt {w : World} {B s n : Nat} {t : TypeId} {v : Value} {C : List Value} (h : w.ownsRow B t s v n C) {j : Nat} (hj : v.ownBlock = some j) : j < w.heap.size := by
  obtain ⟨_, cur, hc⟩ := own_tag h hj
  exact (Array.getElem?_eq_some_iff.1 hc).1
theorem Chg.and {S : Nat → Prop} {w w1 w2 : World} (h : Chg S w w1) (k : Chg S w1 w2) : Chg S w w2 := h.trans (k.mono fun _ _ h => .inl h)
def AddIs (w : World) (B T R mo mg : Nat) (kv nv : Value) (g : Ru) (n : Nd) (e : Ending) (w' : World) : Prop :=
  e = .returned (.tuple #[.int .i64 (if codeOf g n = 0 then (g.ks.length : Int) else 0), .int .i64 (codeOf g n : Int)]) ∧
    ∃ kv' nv', TmAt w' B T R mo mg kv' nv' (next g n) ∧ Chg (fun j => j = T ∨ j = R ∨ kv.ownBlock = some j ∨ nv.ownBlock = some j) w w'
section
variable {w w' W W5 : World} {B T R mo mg : Nat} {kv nv nv' : Value} {g : Ru} {n : Nd} {ka : Option Addr} {kc : Nat} {s : Bool} {a1 : Option Addr} {l1 c1 : Nat} {a2 : Option Addr} {l2 c2 : Nat}
theorem add_fin {m : Nat} {xs news : List Value} (h : RuAt W B R mo mg kv g) (hT : W.heap[T]? = some (.cells #[.pointer (some ⟨R, 0, none⟩), nv] 86 (0, 0))) (hBT : B ≤ T) (hr : W.ownsRow B 33 6 nv m xs) (hm : g.ks.length = m + 1)
    (hown : W5.ownsRow B 33 6 nv' (m + 1) (xs ++ news)) (hg : W.grownBy W5 nv.ownBlock) :
    (W5.cell? ⟨T, 1, none⟩ = some nv ∧ W5.frozen? ⟨T, 1, none⟩ = false) ∧ TmAt (W5.setCell ⟨T, 1, none⟩ nv') B T R mo mg kv nv' g ∧ Chg (fun j => j = T ∨ nv.ownBlock = some j) W (W5.setCell ⟨T, 1, none⟩ nv') := by
  have c1 : Chg (fun j => nv.ownBlock = some j) W W5 := .of_grown hg (fun j hj => hj)
  have c2 : Chg (fun j => j = T) W5 (W5.setCell ⟨T, 1, none⟩ nv') := chg_setCell (S := fun j => j = T) rfl _ _ _
  have hnT := own_ne hr hT (by decide)
  have hnR := own_ne hr h.head (by decide)
  have hTl := (Array.getElem?_eq_some_iff.1 hT).1
  have hT5 : W5.heap[T]? = some (.cells #[.pointer (some ⟨R, 0, none⟩), nv] 86 (0, 0)) := (c1.block T hTl hnT).trans hT
  have h5 : RuAt W5 B R mo mg kv g := h.chg c1 hnR (own_ne_map hr h.ops) (own_ne_map hr h.great) (fun j hj e => by
    obtain ⟨_, cur, hc⟩ := own_tag h.row hj
    exact own_ne hr hc (by decide) e)
  refine ⟨by simp [World.cell?, World.frozen?, hT5], ⟨h5.chg c2 (tag_ne h5.head hT5 (by decide)) (h5.ops.ne hT5) (h5.great.ne hT5) (fun j hj e => ?_), ?_, ⟨xs ++ news, ?_⟩, hBT⟩, (c1.mono (S' := fun j => j = T ∨ nv.ownBlock = some j) (fun j _ hj => .inr hj)).and (c2.mono (fun j _ hj => .inl hj))⟩
  · subst e
    exact own_ne h5.row hT5 (by decide) hj
  · rw [heap_setCell_same W5 T 1 _ _ _ hT5]
    rfl
  · rw [hm]
    exact ownsRow_chg hown c2 (fun j hj e => by subst e; exact own_ne hown hT5 (by decide) hj)
theorem nd6_new (w : World) (x y : Int) (v1 : Value) (s : Bool) (v2 v3 : Value) : ∀ j u, (nd6 x y v1 s v2 v3)[j]? = some u → (w.alloc (.cells #[.int .i64 x, .int .i64 y, v1, .bool s, v2, v3] 33)).cell? ((⟨w.heap.size, 0, none⟩ : Addr).add j) = some u := fun j u hu => by
  rw [Addr.add_mid]
  exact rangeAt_new w (nd6 x y v1 s v2 v3) 33 j u hu
theorem load_nv {oo : Oper} {a : Act} {w : World} (x : Operand) (ho : oo.op = .load 34 x) {b off : Nat} (hx : a.eval x = .pointer (some ⟨b, off, none⟩)) {v : Value} (hc : w.cell? ⟨b, off, none⟩ = some v) : (execOp a.eval oo).run Tryz.prog w = .ok (.value v) w := by
  unfold execOp
  simp only [ho, hx]
  go_simp
set_option maxRecDepth 100000 in
set_option maxHeartbeats 8000000 in
theorem TAdd_any (h : TmAt w B T R mo mg kv nv g) (hn : ∀ W, Chg (fun j => j = T ∨ j = R ∨ kv.ownBlock = some j ∨ nv.ownBlock = some j) w W → NodeAt W n ka kc s a1 l1 c1 a2 l2 c2) (hB : B ≤ w.heap.size) :
    Calls Tryz.prog 16 #[.pointer (some ⟨T, 0, none⟩), .agg #[.int .i64 n.op, .int .i64 n.v, .slice ka n.kids.length kc, .bool s, .slice a1 l1 c1, .slice a2 l2 c2]] w (AddIs w B T R mo mg kv nv g n) := by
  obtain ⟨W2, hW2⟩ : ∃ W2, W2 = w.alloc (.cells #[.int .i64 n.op, .int .i64 n.v, .slice ka n.kids.length kc, .bool s, .slice a1 l1 c1, .slice a2 l2 c2] 33) := ⟨_, rfl⟩
  have hb2 : Below w.heap.size w W2 := by rw [hW2]; exact (Below.refl _ _).alloc (Nat.le_refl _) _
  have hs2 : W2.heap.size = w.heap.size + 1 := by rw [hW2]; simp
  have hn2 : W2.rangeAt w.heap.size 0 [.int .i64 n.op, .int .i64 n.v, .slice ka n.kids.length kc, .bool s, .slice a1 l1 c1, .slice a2 l2 c2] := by rw [hW2]; exact rangeAt_new w [.int .i64 n.op, .int .i64 n.v, .slice ka n.kids.length kc, .bool s, .slice a1 l1 c1, .slice a2 l2 c2] 33
  have hbd := hb2.drew
  have h2 := h.kept hbd
  have HTK := Lib.hid (take_any h2.ru (hn _ (.of_below hbd)) (Nat.le_trans hB hbd.size))
  have HX : Hid (W2.drew.cell? ⟨T, 0, none⟩ = some (.pointer (some ⟨R, 0, none⟩)) ∧ W2.drew.rangeAt w.heap.size 0 [.int .i64 n.op, .int .i64 n.v, .slice ka n.kids.length kc, .bool s, .slice a1 l1 c1, .slice a2 l2 c2]) := Lib.hid ⟨h2.cells.1, hn2⟩
  have HA := Lib.hid (And.intro h (And.intro hn (And.intro hB (And.intro hbd (And.intro h2 (show W2.drew.heap.size = w.heap.size + 1 from hs2))))))
  have HLEN : Hid (codeOf g n = 0 → g.ks.length < 1048576) := Lib.hid (fun hc => by
    unfold codeOf at hc
    cases ho : oprAt n.op with
    | none => rw [ho] at hc; cases hc
    | some o =>
      rw [ho] at hc
      simp only at hc
      repeat' (split at hc; · cases hc)
      omega)
  clear h hn hB hb2 hs2 hn2 hbd h2
  go_enter Tryz.func16, Tryz.ntmps16
  go_wp2_with fail
  rw [← hW2]
  clear hW2
  refine wp_region_held_drew (S := (fun w' => w'.cell? ⟨T, 0, none⟩ = some (.pointer (some ⟨R, 0, none⟩)) ∧ w'.rangeAt w.heap.size 0 [.int .i64 n.op, .int .i64 n.v, .slice ka n.kids.length kc, .bool s, .slice a1 l1 c1, .slice a2 l2 c2])) (by kernel_rfl) ?_ (fun hHeld => ?_)
  · exact HX.out
  refine wpAnyH_take (i := 0) (v := ?_) (by rfl) (by kernel_rfl) (by kernel_rfl) (by kernel_rfl) (by exact fun _ _ _ h => h) (Or.inl ⟨by rfl, ?_⟩) hHeld ?_
  rotate_left 1
  · intro w' hSw
    (try dsimp only at hSw)
    go_simp
    try with_reducible rfl
  try simp only [Act.put, List.setIfInBounds_toArray, List.set_cons_zero, List.set_cons_succ, List.getElem_toArray, List.getElem_cons_zero, List.getElem_cons_succ]
  refine wpAnyH_take (i := 1) (v := ?_) (by rfl) (by kernel_rfl) (by kernel_rfl) (by kernel_rfl) (by exact fun _ _ _ h => h) (Or.inl ⟨by rfl, ?_⟩) hHeld ?_
  rotate_left 1
  · intro w' hSw
    (try dsimp only at hSw)
    go_simp
    try with_reducible rfl
  try simp only [Act.put, List.setIfInBounds_toArray, List.set_cons_zero, List.set_cons_succ, List.getElem_toArray, List.getElem_cons_zero, List.getElem_cons_succ]
  refine wpAnyH_take (i := 2) (v := ?_) (by rfl) (by kernel_rfl) (by kernel_rfl) (by kernel_rfl) (by exact fun _ _ _ h => h) (Or.inl ⟨by rfl, ?_⟩) hHeld ?_
  rotate_left 1
  · intro w' hSw
    (try dsimp only at hSw)
    go_simp
    try with_reducible rfl
  try simp only [Act.put, List.setIfInBounds_toArray, List.set_cons_zero, List.set_cons_succ, List.getElem_toArray, List.getElem_cons_zero, List.getElem_cons_succ]
  refine wpAnyH_take (i := 3) (v := .pointer (some ⟨R, 0, none⟩)) (by rfl) (by kernel_rfl) (by kernel_rfl) (by kernel_rfl) (by exact fun _ _ _ h => h) (Or.inl ⟨by rfl, ?_⟩) hHeld ?_
  · intro w' hSw
    obtain ⟨s1, s2⟩ := hSw
    go_simp
  try simp only [Act.put, List.setIfInBounds_toArray, List.set_cons_zero, List.set_cons_succ, List.getElem_toArray, List.getElem_cons_zero, List.getElem_cons_succ]
  refine wpAnyH_take (i := 4) (v := .agg #[.int .i64 n.op, .int .i64 n.v, .slice ka n.kids.length kc, .bool s, .slice a1 l1 c1, .slice a2 l2 c2]) (by rfl) (by kernel_rfl) (by kernel_rfl) (by kernel_rfl) (by exact fun _ _ _ h => h) (Or.inl ⟨by rfl, ?_⟩) hHeld ?_
  · intro w' hSw
    exact run_load_op 33 (.tmp 3) rfl w.heap.size 0 rfl [.int .i64 n.op, .int .i64 n.v, .slice ka n.kids.length kc, .bool s, .slice a1 l1 c1, .slice a2 l2 c2] _ hSw.2 Tryz.underlying33 rfl (by rw [size_node]; rfl)
  try simp only [Act.put, List.setIfInBounds_toArray, List.set_cons_zero, List.set_cons_succ, List.getElem_toArray, List.getElem_cons_zero, List.getElem_cons_succ]
  refine wpAnyH_ready (rs := [5]) (by kernel_rfl) (by simp) ?_
  refine AllReadyH.cons (by rfl) (fun K hK => ?_) AllReadyH.nil
  go_simp
  refine HTK.out.mono ?_
  rintro e W3 ⟨rfl, kv', hru, hchg, hnew⟩
  have HAL := HA.out
  have HC3 := Lib.hid hchg
  have HR3 := Lib.hid hru
  have hT3 : W3.heap[T]? = some (.cells #[.pointer (some ⟨R, 0, none⟩), nv] 86 (0, 0)) := (hchg.block T (Array.getElem?_eq_some_iff.1 HAL.2.2.2.2.1.head).1 (by
    rintro (e | e)
    · exact tag_ne HAL.2.2.2.2.1.head HAL.2.2.2.2.1.ru.head (by decide) e
    · exact own_ne HAL.2.2.2.2.1.ru.row HAL.2.2.2.2.1.head (by decide) e)).trans HAL.2.2.2.2.1.head
  have hp3 : W3.heap[w.heap.size]? = W2.drew.heap[w.heap.size]? := hchg.block _ (by have := HAL.2.2.2.2.2; omega) (by
    rintro (e | e)
    · have := HAL.1.ru.sizes.1; omega
    · have := own_lt HAL.1.ru.row e; omega)
  have HT3 := Lib.hid hT3
  have HN3 : Hid (W3.rangeAt w.heap.size 0 [.int .i64 n.op, .int .i64 n.v, .slice ka n.kids.length kc, .bool s, .slice a1 l1 c1, .slice a2 l2 c2]) := Lib.hid (fun j u hu => (World.cell?_of_block (a := ⟨w.heap.size, 0 + j, none⟩) hp3).trans (HX.out.2 j u hu))
  have HT30 : Hid (W3.cell? ⟨T, 0, none⟩ = some (.pointer (some ⟨R, 0, none⟩))) := Lib.hid (by simp [World.cell?, hT3])
  clear hchg hru hnew hT3 hp3 HAL
  refine hK.out _ _ ?_ (fun hHeld => ?_)
  · exact ⟨HT30.out, HN3.out⟩
  clear hK K
  try simp only [Act.put, List.setIfInBounds_toArray, List.set_cons_zero, List.set_cons_succ, List.getElem_toArray, List.getElem_cons_zero, List.getElem_cons_succ]
  refine wpAnyH_take (i := 6) (v := ?_) (by rfl) (by kernel_rfl) (by kernel_rfl) (by kernel_rfl) (by exact fun _ _ _ h => h) (Or.inl ⟨by rfl, ?_⟩) hHeld ?_
  rotate_left 1
  · intro w' hSw
    (try dsimp only at hSw)
    go_simp
    try with_reducible rfl
  try simp only [Act.put, List.setIfInBounds_toArray, List.set_cons_zero, List.set_cons_succ, List.getElem_toArray, List.getElem_cons_zero, List.getElem_cons_succ]
  refine wpAnyH_done (by kernel_rfl) ?_ _
  clear hHeld HTK
  by_cases hcode : codeOf g n = 0
  · have HCODE := Lib.hid hcode
    rw [hcode]
    have hlen := HLEN.out hcode
    have hnext : (next g n).ks.length = g.ks.length + 1 := by unfold next; rw [if_pos hcode]; simp
    have HNXL := Lib.hid hnext
    obtain ⟨xs, hxs⟩ := HA.out.2.2.2.2.1.row
    have hxs3 : W3.ownsRow B 33 6 nv g.ks.length xs := ownsRow_chg hxs HC3.out (by
      rintro j hj (e | e)
      · subst e; exact own_ne hxs HA.out.2.2.2.2.1.ru.head (by decide) hj
      · obtain ⟨_, cur, hc⟩ := own_tag HA.out.2.2.2.2.1.ru.row e
        exact own_ne hxs hc (by decide) hj)
    have HXS := Lib.hid hxs3
    have hT1 : W3.cell? ⟨T, 1, none⟩ = some nv := by simp [World.cell?, HT3.out]
    have HK0 : Hid (W3.drew.cell? ⟨T, 1, none⟩ = some nv) := Lib.hid hT1
    have HB3 : Hid (w.heap.size + 1 ≤ W3.heap.size) := Lib.hid (by have := HC3.out.size; have := HA.out.2.2.2.2.2; omega)
    have HCW : Hid (Chg (fun j => j = T ∨ j = R ∨ kv.ownBlock = some j ∨ nv.ownBlock = some j) w W3.drew) := Lib.hid (((Chg.of_below HA.out.2.2.2.1).and (HC3.out.mono (fun j _ hj => hj.elim (fun e => .inr (.inl e)) (fun e => .inr (.inr (.inl e)))))).and Chg.drew)
    have HOWN := Lib.hid (own_any (HA.out.2.1 _ HCW.out))
    have hlw : wrap64 (g.ks.length : Int) = (g.ks.length : Int) := IntWalk.wrap64_in _ (by omega)
    have HL2 : Hid (g.ks.length + 1 ≤ 2000000) := Lib.hid (by omega)
    generalize hgl : g.ks.length = len at *
    have HGL := Lib.hid hgl
    clear hxs hxs3 hT1 hcode hnext hlen hgl
    go_wp2_with fail
    refine wp_region_held_drew (S := (fun w' => w'.rangeAt w.heap.size 0 [.int .i64 n.op, .int .i64 n.v, .slice ka n.kids.length kc, .bool s, .slice a1 l1 c1, .slice a2 l2 c2])) (by kernel_rfl) ?_ (fun hHeld => ?_)
    · exact HN3.out
    refine wpAnyH_take (i := 0) (v := ?_) (by rfl) (by kernel_rfl) (by kernel_rfl) (by kernel_rfl) (by exact fun _ _ _ h => h) (Or.inl ⟨by rfl, ?_⟩) hHeld ?_
    rotate_left 1
    · intro w' hSw
      (try dsimp only at hSw)
      go_simp
      try with_reducible rfl
    try simp only [Act.put, List.setIfInBounds_toArray, List.set_cons_zero, List.set_cons_succ, List.getElem_toArray, List.getElem_cons_zero, List.getElem_cons_succ]
    refine wpAnyH_take (i := 1) (v := ?_) (by rfl) (by kernel_rfl) (by kernel_rfl) (by kernel_rfl) (by exact fun _ _ _ h => h) (Or.inl ⟨by rfl, ?_⟩) hHeld ?_
    rotate_left 1
    · intro w' hSw
      (try dsimp only at hSw)
      go_simp
      try with_reducible rfl
    try simp only [Act.put, List.setIfInBounds_toArray, List.set_cons_zero, List.set_cons_succ, List.getElem_toArray, List.getElem_cons_zero, List.getElem_cons_succ]
    refine wpAnyH_take (i := 2) (v := ?_) (by rfl) (by kernel_rfl) (by kernel_rfl) (by kernel_rfl) (by exact fun _ _ _ h => h) (Or.inl ⟨by rfl, ?_⟩) hHeld ?_
    rotate_left 1
    · intro w' hSw
      (try dsimp only at hSw)
      go_simp
      try with_reducible rfl
    try simp only [Act.put, List.setIfInBounds_toArray, List.set_cons_zero, List.set_cons_succ, List.getElem_toArray, List.getElem_cons_zero, List.getElem_cons_succ]
    refine wpAnyH_take (i := 3) (v := ?_) (by rfl) (by kernel_rfl) (by kernel_rfl) (by kernel_rfl) (by exact fun _ _ _ h => h) (Or.inl ⟨by rfl, ?_⟩) hHeld ?_
    rotate_left 1
    · intro w' hSw
      (try dsimp only at hSw)
      go_simp
      try with_reducible rfl
    try simp only [Act.put, List.setIfInBounds_toArray, List.set_cons_zero, List.set_cons_succ, List.getElem_toArray, List.getElem_cons_zero, List.getElem_cons_succ]
    refine wpAnyH_take (i := 5) (v := .agg #[.int .i64 n.op, .int .i64 n.v, .slice ka n.kids.length kc, .bool s, .slice a1 l1 c1, .slice a2 l2 c2]) (by rfl) (by kernel_rfl) (by kernel_rfl) (by kernel_rfl) (by exact fun _ _ _ h => h) (Or.inl ⟨by rfl, ?_⟩) hHeld ?_
    · intro w' hSw
      exact run_load_op 33 (.tmp 3) rfl w.heap.size 0 rfl [.int .i64 n.op, .int .i64 n.v, .slice ka n.kids.length kc, .bool s, .slice a1 l1 c1, .slice a2 l2 c2] _ hSw Tryz.underlying33 rfl (by rw [size_node]; rfl)
    try simp only [Act.put, List.setIfInBounds_toArray, List.set_cons_zero, List.set_cons_succ, List.getElem_toArray, List.getElem_cons_zero, List.getElem_cons_succ]
    refine wpAnyH_ready (rs := [4, 6]) (by kernel_rfl) (by simp) ?_
    refine AllReadyH.cons (by rfl) (fun K hK => ?_) ?_
    · refine step_val _ (load_nv (.tmp 19) rfl rfl HK0.out) rfl ?_
      refine hK.out _ _ ?_ (fun hHeld => ?_)
      · exact hHeld
      clear hK K
      try simp only [Act.put, List.setIfInBounds_toArray, List.set_cons_zero, List.set_cons_succ, List.getElem_toArray, List.getElem_cons_zero, List.getElem_cons_succ]
      refine wpAnyH_ready (rs := [6]) (by kernel_rfl) (by simp) ?_
      refine AllReadyH.cons (by rfl) (fun K hK => ?_) AllReadyH.nil
      go_simp
      refine HOWN.out.mono ?_
      rintro e W4 ⟨b1, n1, k1, b2, n2, k2, b3, n3, k3, rfl, hb⟩
      have HB4 := Lib.hid hb
      have HN4 : Hid (W4.rangeAt w.heap.size 0 [.int .i64 n.op, .int .i64 n.v, .slice ka n.kids.length kc, .bool s, .slice a1 l1 c1, .slice a2 l2 c2]) := Lib.hid (rangeAt_kept (w := W3.drew) HN3.out hb (by have := HB3.out; show w.heap.size < W3.heap.size; omega))
      have HK4 : Hid (W4.cell? ⟨T, 1, none⟩ = some nv) := Lib.hid ((hb.cell (p := ⟨T, 1, none⟩) (World.block_lt_of_cell? _ _ HK0.out)).trans HK0.out)
      clear hb
      refine hK.out _ _ ?_ (fun hHeld => ?_)
      · exact HN4.out
      clear hK K
      try simp only [Act.put, List.setIfInBounds_toArray, List.set_cons_zero, List.set_cons_succ, List.getElem_toArray, List.getElem_cons_zero, List.getElem_cons_succ]
      refine wpAnyH_ready (rs := [7]) (by kernel_rfl) (by simp) ?_
      refine AllReadyH.cons (by rfl) (fun K hK => ?_) AllReadyH.nil
      go_simp
      have al := (Below.refl W4.heap.size W4).alloc (Nat.le_refl _) (.cells #[.int .i64 n.op, .int .i64 n.v, .slice b1 n1 k1, .bool s, .slice b2 n2 k2, .slice b3 n3 k3] 33)
      have HALL := Lib.hid al
      have HBA : Hid (Below W3.drew.heap.size W3.drew (W4.alloc (.cells #[.int .i64 n.op, .int .i64 n.v, .slice b1 n1 k1, .bool s, .slice b2 n2 k2, .slice b3 n3 k3] 33))) := Lib.hid (HB4.out.trans (al.mono HB4.out.size))
      have HN5 : Hid ((W4.alloc (.cells #[.int .i64 n.op, .int .i64 n.v, .slice b1 n1 k1, .bool s, .slice b2 n2 k2, .slice b3 n3 k3] 33)).rangeAt w.heap.size 0 [.int .i64 n.op, .int .i64 n.v, .slice ka n.kids.length kc, .bool s, .slice a1 l1 c1, .slice a2 l2 c2]) := Lib.hid (rangeAt_kept HN4.out al (by have := HB3.out; have h4 := HB4.out.size; have h5 : W3.drew.heap.size = W3.heap.size := rfl; omega))
      have HK5 : Hid ((W4.alloc (.cells #[.int .i64 n.op, .int .i64 n.v, .slice b1 n1 k1, .bool s, .slice b2 n2 k2, .slice b3 n3 k3] 33)).cell? ⟨T, 1, none⟩ = some nv) := Lib.hid ((al.cell (p := ⟨T, 1, none⟩) (World.block_lt_of_cell? _ _ HK4.out)).trans HK4.out)
      clear al
      refine hK.out _ _ ?_ (fun hHeld => ?_)
      · exact HN5.out
      clear hK K
      try simp only [Act.put, List.setIfInBounds_toArray, List.set_cons_zero, List.set_cons_succ, List.getElem_toArray, List.getElem_cons_zero, List.getElem_cons_succ]
      refine wpAnyH_ready (rs := [8]) (by kernel_rfl) (by simp) ?_
      refine AllReadyH.cons (by rfl) (fun K hK => ?_) AllReadyH.nil
      have HBA3 : Hid (Below W3.heap.size W3 (W4.alloc (.cells #[.int .i64 n.op, .int .i64 n.v, .slice b1 n1 k1, .bool s, .slice b2 n2 k2, .slice b3 n3 k3] 33))) := Lib.hid ((Below.refl W3.heap.size W3).drew.trans (HBA.out.mono (show W3.heap.size ≤ W3.drew.heap.size from Nat.le_refl _)))
      have HR5 := Lib.hid (HR3.out.kept HBA3.out)
      have HT5 : Hid ((W4.alloc (.cells #[.int .i64 n.op, .int .i64 n.v, .slice b1 n1 k1, .bool s, .slice b2 n2 k2, .slice b3 n3 k3] 33)).heap[T]? = some (.cells #[.pointer (some ⟨R, 0, none⟩), nv] 86 (0, 0))) := Lib.hid ((HBA.out.block T (Array.getElem?_eq_some_iff.1 HT3.out).1).trans HT3.out)
      have HX5 : Hid ((W4.alloc (.cells #[.int .i64 n.op, .int .i64 n.v, .slice b1 n1 k1, .bool s, .slice b2 n2 k2, .slice b3 n3 k3] 33)).ownsRow B 33 6 nv len xs) := Lib.hid (ownsRow_chg HXS.out (Chg.of_below (S := fun _ => False) HBA3.out) (fun _ _ h => h))
      refine step_app_row rowT_node rfl (.tmp 20) (.tmp 23) rfl B nv len xs rfl HX5.out ⟨W4.heap.size, 0, none⟩ 1 1 (nd6 n.op n.v (.slice b1 n1 k1) s (.slice b2 n2 k2) (.slice b3 n3 k3)) rfl rfl (nd6_new W4 _ _ _ _ _ _) nd6_one HL2.out (Nat.le_trans HA.out.2.2.1 (Nat.le_trans HCW.out.size HBA.out.size)) ?_
      intro nv' W6 hown hgr hnew
      obtain ⟨va, vc, rfl, _, _⟩ := own_value hown
      have HF := Lib.hid (add_fin HR5.out HT5.out HA.out.1.low HX5.out HNXL.out hown hgr)
      have gc := HF.out.1.1
      have gf := HF.out.1.2
      have HN6 : Hid (W6.rangeAt w.heap.size 0 [.int .i64 n.op, .int .i64 n.v, .slice ka n.kids.length kc, .bool s, .slice a1 l1 c1, .slice a2 l2 c2]) := Lib.hid (fun j u hu => (World.cell?_of_block (a := ⟨w.heap.size, 0 + j, none⟩) (hgr.block _ (World.block_lt_of_cell? _ _ (HN5.out j u hu)) (fun e => by
        obtain ⟨ys, hys⟩ := HA.out.1.row
        have := own_lt hys e.symm
        simp at this))).trans (HN5.out j u hu))
      clear hown hgr hnew
      refine hK.out _ _ ?_ (fun hHeld => ?_)
      · exact HN6.out
      clear hK K
      try simp only [Act.put, List.setIfInBounds_toArray, List.set_cons_zero, List.set_cons_succ, List.getElem_toArray, List.getElem_cons_zero, List.getElem_cons_succ]
      refine wpAnyH_take (i := 9) (v := ?_) (by rfl) (by kernel_rfl) (by kernel_rfl) (by kernel_rfl) (by exact fun _ _ _ h => h) (Or.inl ⟨by rfl, ?_⟩) hHeld ?_
      rotate_left 1
      · intro w' hSw
        (try dsimp only at hSw)
        go_simp
        try with_reducible rfl
      try simp only [Act.put, List.setIfInBounds_toArray, List.set_cons_zero, List.set_cons_succ, List.getElem_toArray, List.getElem_cons_zero, List.getElem_cons_succ]
      refine wpAnyH_take (i := 10) (v := ?_) (by rfl) (by kernel_rfl) (by kernel_rfl) (by kernel_rfl) (by exact fun _ _ _ h => h) (Or.inl ⟨by rfl, ?_⟩) hHeld ?_
      rotate_left 1
      · intro w' hSw
        (try dsimp only at hSw)
        go_simp
        try with_reducible rfl
      try simp only [Act.put, List.setIfInBounds_toArray, List.set_cons_zero, List.set_cons_succ, List.getElem_toArray, List.getElem_cons_zero, List.getElem_cons_succ]
      refine wpAnyH_ready (rs := [11]) (by kernel_rfl) (by simp) ?_
      refine AllReadyH.cons (by rfl) (fun K hK => ?_) AllReadyH.nil
      go_simp
      refine hK.out _ _ ?_ (fun hHeld => ?_)
      · exact fun j u hu => (World.cell?_of_block (a := ⟨w.heap.size, 0 + j, none⟩) (heap_setCell_other _ _ _ _ (fun e => by have := (Array.getElem?_eq_some_iff.1 HA.out.1.head).1; simp at e; omega))).trans (HN6.out j u hu)
      clear hK K
      try simp only [Act.put, List.setIfInBounds_toArray, List.set_cons_zero, List.set_cons_succ, List.getElem_toArray, List.getElem_cons_zero, List.getElem_cons_succ]
      refine wpAnyH_done (by kernel_rfl) ?_ _
      clear hHeld
      have HEND : Hid (AddIs w B T R mo mg kv nv g n (.returned (.tuple #[.int .i64 (len : Int), .int .i64 0])) (W6.setCell ⟨T, 1, none⟩ (.slice va (len + 1) vc))) := Lib.hid ⟨by rw [HCODE.out, if_pos rfl, HGL.out]; rfl, kv', _, HF.out.2.1, (HCW.out.and (Chg.of_below HBA.out)).and (HF.out.2.2.mono (fun j _ hj => hj.elim (fun e => .inl e) (fun e => .inr (.inr (.inr e)))))⟩
      obtain ⟨z1, z2, z3⟩ := HF.out.2.1.cells
      go_wp2_with fail
      refine bodyPost_ret (v := .tuple #[.int .i64 (len : Int), .int .i64 0]) ?_ rfl HEND.out
      simp [results, Tryz.results16, asAddr, Act.put, hlw]
    refine AllReadyH.cons (by rfl) (fun K hK => ?_) ?_
    · go_simp
      refine HOWN.out.mono ?_
      rintro e W4 ⟨b1, n1, k1, b2, n2, k2, b3, n3, k3, rfl, hb⟩
      have HB4 := Lib.hid hb
      have HN4 : Hid (W4.rangeAt w.heap.size 0 [.int .i64 n.op, .int .i64 n.v, .slice ka n.kids.length kc, .bool s, .slice a1 l1 c1, .slice a2 l2 c2]) := Lib.hid (rangeAt_kept (w := W3.drew) HN3.out hb (by have := HB3.out; show w.heap.size < W3.heap.size; omega))
      have HK4 : Hid (W4.cell? ⟨T, 1, none⟩ = some nv) := Lib.hid ((hb.cell (p := ⟨T, 1, none⟩) (World.block_lt_of_cell? _ _ HK0.out)).trans HK0.out)
      clear hb
      refine hK.out _ _ ?_ (fun hHeld => ?_)
      · exact HN4.out
      clear hK K
      try simp only [Act.put, List.setIfInBounds_toArray, List.set_cons_zero, List.set_cons_succ, List.getElem_toArray, List.getElem_cons_zero, List.getElem_cons_succ]
      refine wpAnyH_ready (rs := [4, 7]) (by kernel_rfl) (by simp) ?_
      refine AllReadyH.cons (by rfl) (fun K hK => ?_) ?_
      · refine step_val _ (load_nv (.tmp 19) rfl rfl HK4.out) rfl ?_
        refine hK.out _ _ ?_ (fun hHeld => ?_)
        · exact hHeld
        clear hK K
        try simp only [Act.put, List.setIfInBounds_toArray, List.set_cons_zero, List.set_cons_succ, List.getElem_toArray, List.getElem_cons_zero, List.getElem_cons_succ]
        refine wpAnyH_ready (rs := [7]) (by kernel_rfl) (by simp) ?_
        refine AllReadyH.cons (by rfl) (fun K hK => ?_) AllReadyH.nil
        go_simp
        have al := (Below.refl W4.heap.size W4).alloc (Nat.le_refl _) (.cells #[.int .i64 n.op, .int .i64 n.v, .slice b1 n1 k1, .bool s, .slice b2 n2 k2, .slice b3 n3 k3] 33)
        have HALL := Lib.hid al
        have HBA : Hid (Below W3.drew.heap.size W3.drew (W4.alloc (.cells #[.int .i64 n.op, .int .i64 n.v, .slice b1 n1 k1, .bool s, .slice b2 n2 k2, .slice b3 n3 k3] 33))) := Lib.hid (HB4.out.trans (al.mono HB4.out.size))
        have HN5 : Hid ((W4.alloc (.cells #[.int .i64 n.op, .int .i64 n.v, .slice b1 n1 k1, .bool s, .slice b2 n2 k2, .slice b3 n3 k3] 33)).rangeAt w.heap.size 0 [.int .i64 n.op, .int .i64 n.v, .slice ka n.kids.length kc, .bool s, .slice a1 l1 c1, .slice a2 l2 c2]) := Lib.hid (rangeAt_kept HN4.out al (by have := HB3.out; have h4 := HB4.out.size; have h5 : W3.drew.heap.size = W3.heap.size := rfl; omega))
        have HK5 : Hid ((W4.alloc (.cells #[.int .i64 n.op, .int .i64 n.v, .slice b1 n1 k1, .bool s, .slice b2 n2 k2, .slice b3 n3 k3] 33)).cell? ⟨T, 1, none⟩ = some nv) := Lib.hid ((al.cell (p := ⟨T, 1, none⟩) (World.block_lt_of_cell? _ _ HK4.out)).trans HK4.out)
        clear al
        refine hK.out _ _ ?_ (fun hHeld => ?_)
        · exact HN5.out
        clear hK K
        try simp only [Act.put, List.setIfInBounds_toArray, List.set_cons_zero, List.set_cons_succ, List.getElem_toArray, List.getElem_cons_zero, List.getElem_cons_succ]
        refine wpAnyH_ready (rs := [8]) (by kernel_rfl) (by simp) ?_
        refine AllReadyH.cons (by rfl) (fun K hK => ?_) AllReadyH.nil
        have HBA3 : Hid (Below W3.heap.size W3 (W4.alloc (.cells #[.int .i64 n.op, .int .i64 n.v, .slice b1 n1 k1, .bool s, .slice b2 n2 k2, .slice b3 n3 k3] 33))) := Lib.hid ((Below.refl W3.heap.size W3).drew.trans (HBA.out.mono (show W3.heap.size ≤ W3.drew.heap.size from Nat.le_refl _)))
        have HR5 := Lib.hid (HR3.out.kept HBA3.out)
        have HT5 : Hid ((W4.alloc (.cells #[.int .i64 n.op, .int .i64 n.v, .slice b1 n1 k1, .bool s, .slice b2 n2 k2, .slice b3 n3 k3] 33)).heap[T]? = some (.cells #[.pointer (some ⟨R, 0, none⟩), nv] 86 (0, 0))) := Lib.hid ((HBA.out.block T (Array.getElem?_eq_some_iff.1 HT3.out).1).trans HT3.out)
        have HX5 : Hid ((W4.alloc (.cells #[.int .i64 n.op, .int .i64 n.v, .slice b1 n1 k1, .bool s, .slice b2 n2 k2, .slice b3 n3 k3] 33)).ownsRow B 33 6 nv len xs) := Lib.hid (ownsRow_chg HXS.out (Chg.of_below (S := fun _ => False) HBA3.out) (fun _ _ h => h))
        refine step_app_row rowT_node rfl (.tmp 20) (.tmp 23) rfl B nv len xs rfl HX5.out ⟨W4.heap.size, 0, none⟩ 1 1 (nd6 n.op n.v (.slice b1 n1 k1) s (.slice b2 n2 k2) (.slice b3 n3 k3)) rfl rfl (nd6_new W4 _ _ _ _ _ _) nd6_one HL2.out (Nat.le_trans HA.out.2.2.1 (Nat.le_trans HCW.out.size HBA.out.size)) ?_
        intro nv' W6 hown hgr hnew
        obtain ⟨va, vc, rfl, _, _⟩ := own_value hown
        have HF := Lib.hid (add_fin HR5.out HT5.out HA.out.1.low HX5.out HNXL.out hown hgr)
        have gc := HF.out.1.1
        have gf := HF.out.1.2
        have HN6 : Hid (W6.rangeAt w.heap.size 0 [.int .i64 n.op, .int .i64 n.v, .slice ka n.kids.length kc, .bool s, .slice a1 l1 c1, .slice a2 l2 c2]) := Lib.hid (fun j u hu => (World.cell?_of_block (a := ⟨w.heap.size, 0 + j, none⟩) (hgr.block _ (World.block_lt_of_cell? _ _ (HN5.out j u hu)) (fun e => by
          obtain ⟨ys, hys⟩ := HA.out.1.row
          have := own_lt hys e.symm
          simp at this))).trans (HN5.out j u hu))
        clear hown hgr hnew
        refine hK.out _ _ ?_ (fun hHeld => ?_)
        · exact HN6.out
        clear hK K
        try simp only [Act.put, List.setIfInBounds_toArray, List.set_cons_zero, List.set_cons_succ, List.getElem_toArray, List.getElem_cons_zero, List.getElem_cons_succ]
        refine wpAnyH_take (i := 9) (v := ?_) (by rfl) (by kernel_rfl) (by kernel_rfl) (by kernel_rfl) (by exact fun _ _ _ h => h) (Or.inl ⟨by rfl, ?_⟩) hHeld ?_
        rotate_left 1
        · intro w' hSw
          (try dsimp only at hSw)
          go_simp
          try with_reducible rfl
        try simp only [Act.put, List.setIfInBounds_toArray, List.set_cons_zero, List.set_cons_succ, List.getElem_toArray, List.getElem_cons_zero, List.getElem_cons_succ]
        refine wpAnyH_take (i := 10) (v := ?_) (by rfl) (by kernel_rfl) (by kernel_rfl) (by kernel_rfl) (by exact fun _ _ _ h => h) (Or.inl ⟨by rfl, ?_⟩) hHeld ?_
        rotate_left 1
        · intro w' hSw
          (try dsimp only at hSw)
          go_simp
          try with_reducible rfl
        try simp only [Act.put, List.setIfInBounds_toArray, List.set_cons_zero, List.set_cons_succ, List.getElem_toArray, List.getElem_cons_zero, List.getElem_cons_succ]
        refine wpAnyH_ready (rs := [11]) (by kernel_rfl) (by simp) ?_
        refine AllReadyH.cons (by rfl) (fun K hK => ?_) AllReadyH.nil
        go_simp
        refine hK.out _ _ ?_ (fun hHeld => ?_)
        · exact fun j u hu => (World.cell?_of_block (a := ⟨w.heap.size, 0 + j, none⟩) (heap_setCell_other _ _ _ _ (fun e => by have := (Array.getElem?_eq_some_iff.1 HA.out.1.head).1; simp at e; omega))).trans (HN6.out j u hu)
        clear hK K
        try simp only [Act.put, List.setIfInBounds_toArray, List.set_cons_zero, List.set_cons_succ, List.getElem_toArray, List.getElem_cons_zero, List.getElem_cons_succ]
        refine wpAnyH_done (by kernel_rfl) ?_ _
        clear hHeld
        have HEND : Hid (AddIs w B T R mo mg kv nv g n (.returned (.tuple #[.int .i64 (len : Int), .int .i64 0])) (W6.setCell ⟨T, 1, none⟩ (.slice va (len + 1) vc))) := Lib.hid ⟨by rw [HCODE.out, if_pos rfl, HGL.out]; rfl, kv', _, HF.out.2.1, (HCW.out.and (Chg.of_below HBA.out)).and (HF.out.2.2.mono (fun j _ hj => hj.elim (fun e => .inl e) (fun e => .inr (.inr (.inr e)))))⟩
        obtain ⟨z1, z2, z3⟩ := HF.out.2.1.cells
        go_wp2_with fail
        refine bodyPost_ret (v := .tuple #[.int .i64 (len : Int), .int .i64 0]) ?_ rfl HEND.out
        simp [results, Tryz.results16, asAddr, Act.put, hlw]
      refine AllReadyH.cons (by rfl) (fun K hK => ?_) ?_
      · go_simp
        have al := (Below.refl W4.heap.size W4).alloc (Nat.le_refl _) (.cells #[.int .i64 n.op, .int .i64 n.v, .slice b1 n1 k1, .bool s, .slice b2 n2 k2, .slice b3 n3 k3] 33)
        have HALL := Lib.hid al
        have HBA : Hid (Below W3.drew.heap.size W3.drew (W4.alloc (.cells #[.int .i64 n.op, .int .i64 n.v, .slice b1 n1 k1, .bool s, .slice b2 n2 k2, .slice b3 n3 k3] 33))) := Lib.hid (HB4.out.trans (al.mono HB4.out.size))
        have HN5 : Hid ((W4.alloc (.cells #[.int .i64 n.op, .int .i64 n.v, .slice b1 n1 k1, .bool s, .slice b2 n2 k2, .slice b3 n3 k3] 33)).rangeAt w.heap.size 0 [.int .i64 n.op, .int .i64 n.v, .slice ka n.kids.length kc, .bool s, .slice a1 l1 c1, .slice a2 l2 c2]) := Lib.hid (rangeAt_kept HN4.out al (by have := HB3.out; have h4 := HB4.out.size; have h5 : W3.drew.heap.size = W3.heap.size := rfl; omega))
        have HK5 : Hid ((W4.alloc (.cells #[.int .i64 n.op, .int .i64 n.v, .slice b1 n1 k1, .bool s, .slice b2 n2 k2, .slice b3 n3 k3] 33)).cell? ⟨T, 1, none⟩ = some nv) := Lib.hid ((al.cell (p := ⟨T, 1, none⟩) (World.block_lt_of_cell? _ _ HK4.out)).trans HK4.out)
        clear al
        refine hK.out _ _ ?_ (fun hHeld => ?_)
        · exact HN5.out
        clear hK K
        try simp only [Act.put, List.setIfInBounds_toArray, List.set_cons_zero, List.set_cons_succ, List.getElem_toArray, List.getElem_cons_zero, List.getElem_cons_succ]
        refine wpAnyH_ready (rs := [4]) (by kernel_rfl) (by simp) ?_
        refine AllReadyH.cons (by rfl) (fun K hK => ?_) AllReadyH.nil
        refine step_val _ (load_nv (.tmp 19) rfl rfl HK5.out) rfl ?_
        refine hK.out _ _ ?_ (fun hHeld => ?_)
        · exact hHeld
        clear hK K
        try simp only [Act.put, List.setIfInBounds_toArray, List.set_cons_zero, List.set_cons_succ, List.getElem_toArray, List.getElem_cons_zero, List.getElem_cons_succ]
        refine wpAnyH_ready (rs := [8]) (by kernel_rfl) (by simp) ?_
        refine AllReadyH.cons (by rfl) (fun K hK => ?_) AllReadyH.nil
        have HBA3 : Hid (Below W3.heap.size W3 (W4.alloc (.cells #[.int .i64 n.op, .int .i64 n.v, .slice b1 n1 k1, .bool s, .slice b2 n2 k2, .slice b3 n3 k3] 33))) := Lib.hid ((Below.refl W3.heap.size W3).drew.trans (HBA.out.mono (show W3.heap.size ≤ W3.drew.heap.size from Nat.le_refl _)))
        have HR5 := Lib.hid (HR3.out.kept HBA3.out)
        have HT5 : Hid ((W4.alloc (.cells #[.int .i64 n.op, .int .i64 n.v, .slice b1 n1 k1, .bool s, .slice b2 n2 k2, .slice b3 n3 k3] 33)).heap[T]? = some (.cells #[.pointer (some ⟨R, 0, none⟩), nv] 86 (0, 0))) := Lib.hid ((HBA.out.block T (Array.getElem?_eq_some_iff.1 HT3.out).1).trans HT3.out)
        have HX5 : Hid ((W4.alloc (.cells #[.int .i64 n.op, .int .i64 n.v, .slice b1 n1 k1, .bool s, .slice b2 n2 k2, .slice b3 n3 k3] 33)).ownsRow B 33 6 nv len xs) := Lib.hid (ownsRow_chg HXS.out (Chg.of_below (S := fun _ => False) HBA3.out) (fun _ _ h => h))
        refine step_app_row rowT_node rfl (.tmp 20) (.tmp 23) rfl B nv len xs rfl HX5.out ⟨W4.heap.size, 0, none⟩ 1 1 (nd6 n.op n.v (.slice b1 n1 k1) s (.slice b2 n2 k2) (.slice b3 n3 k3)) rfl rfl (nd6_new W4 _ _ _ _ _ _) nd6_one HL2.out (Nat.le_trans HA.out.2.2.1 (Nat.le_trans HCW.out.size HBA.out.size)) ?_
        intro nv' W6 hown hgr hnew
        obtain ⟨va, vc, rfl, _, _⟩ := own_value hown
        have HF := Lib.hid (add_fin HR5.out HT5.out HA.out.1.low HX5.out HNXL.out hown hgr)
        have gc := HF.out.1.1
        have gf := HF.out.1.2
        have HN6 : Hid (W6.rangeAt w.heap.size 0 [.int .i64 n.op, .int .i64 n.v, .slice ka n.kids.length kc, .bool s, .slice a1 l1 c1, .slice a2 l2 c2]) := Lib.hid (fun j u hu => (World.cell?_of_block (a := ⟨w.heap.size, 0 + j, none⟩) (hgr.block _ (World.block_lt_of_cell? _ _ (HN5.out j u hu)) (fun e => by
          obtain ⟨ys, hys⟩ := HA.out.1.row
          have := own_lt hys e.symm
          simp at this))).trans (HN5.out j u hu))
        clear hown hgr hnew
        refine hK.out _ _ ?_ (fun hHeld => ?_)
        · exact HN6.out
        clear hK K
        try simp only [Act.put, List.setIfInBounds_toArray, List.set_cons_zero, List.set_cons_succ, List.getElem_toArray, List.getElem_cons_zero, List.getElem_cons_succ]
        refine wpAnyH_take (i := 9) (v := ?_) (by rfl) (by kernel_rfl) (by kernel_rfl) (by kernel_rfl) (by exact fun _ _ _ h => h) (Or.inl ⟨by rfl, ?_⟩) hHeld ?_
        rotate_left 1
        · intro w' hSw
          (try dsimp only at hSw)
          go_simp
          try with_reducible rfl
        try simp only [Act.put, List.setIfInBounds_toArray, List.set_cons_zero, List.set_cons_succ, List.getElem_toArray, List.getElem_cons_zero, List.getElem_cons_succ]
        refine wpAnyH_take (i := 10) (v := ?_) (by rfl) (by kernel_rfl) (by kernel_rfl) (by kernel_rfl) (by exact fun _ _ _ h => h) (Or.inl ⟨by rfl, ?_⟩) hHeld ?_
        rotate_left 1
        · intro w' hSw
          (try dsimp only at hSw)
          go_simp
          try with_reducible rfl
        try simp only [Act.put, List.setIfInBounds_toArray, List.set_cons_zero, List.set_cons_succ, List.getElem_toArray, List.getElem_cons_zero, List.getElem_cons_succ]
        refine wpAnyH_ready (rs := [11]) (by kernel_rfl) (by simp) ?_
        refine AllReadyH.cons (by rfl) (fun K hK => ?_) AllReadyH.nil
        go_simp
        refine hK.out _ _ ?_ (fun hHeld => ?_)
        · exact fun j u hu => (World.cell?_of_block (a := ⟨w.heap.size, 0 + j, none⟩) (heap_setCell_other _ _ _ _ (fun e => by have := (Array.getElem?_eq_some_iff.1 HA.out.1.head).1; simp at e; omega))).trans (HN6.out j u hu)
        clear hK K
        try simp only [Act.put, List.setIfInBounds_toArray, List.set_cons_zero, List.set_cons_succ, List.getElem_toArray, List.getElem_cons_zero, List.getElem_cons_succ]
        refine wpAnyH_done (by kernel_rfl) ?_ _
        clear hHeld
        have HEND : Hid (AddIs w B T R mo mg kv nv g n (.returned (.tuple #[.int .i64 (len : Int), .int .i64 0])) (W6.setCell ⟨T, 1, none⟩ (.slice va (len + 1) vc))) := Lib.hid ⟨by rw [HCODE.out, if_pos rfl, HGL.out]; rfl, kv', _, HF.out.2.1, (HCW.out.and (Chg.of_below HBA.out)).and (HF.out.2.2.mono (fun j _ hj => hj.elim (fun e => .inl e) (fun e => .inr (.inr (.inr e)))))⟩
        obtain ⟨z1, z2, z3⟩ := HF.out.2.1.cells
        go_wp2_with fail
        refine bodyPost_ret (v := .tuple #[.int .i64 (len : Int), .int .i64 0]) ?_ rfl HEND.out
        simp [results, Tryz.results16, asAddr, Act.put, hlw]
      exact AllReadyH.nil
    exact AllReadyH.nil
  · have hc0 : ((codeOf g n : Int) == 0) = false := by simpa using hcode
    have HNE := Lib.hid hcode
    have hnx : next g n = g := by unfold next; rw [if_neg hcode]
    generalize hcd : codeOf g n = cd at *
    have HCD := Lib.hid hcd
    clear hcode hcd
    go_wp2_with fail
    refine bodyPost_ret (v := .tuple #[.int .i64 0, .int .i64 (cd : Int)]) ?_ rfl ⟨by rw [HCD.out, if_neg HNE.out], kv', nv, ?_, ?_⟩
    · simp [results, Tryz.results16, asAddr, Act.put]
    · have hA := HA.out.2.2.2.2.1
      have h3 := HR3.out
      rw [hnx] at h3 ⊢
      refine ⟨h3, HT3.out, ?_, hA.low⟩
      obtain ⟨xs, hxs⟩ := hA.row
      exact ⟨xs, ownsRow_chg hxs HC3.out (by
        rintro j hj (e | e)
        · subst e; exact own_ne hxs hA.ru.head (by decide) hj
        · obtain ⟨_, cur, hc⟩ := own_tag hA.ru.row e
          exact own_ne hxs hc (by decide) hj)⟩
    · exact (Chg.of_below HA.out.2.2.2.1).and (HC3.out.mono (fun j _ hj => hj.elim (fun e => .inr (.inl e)) (fun e => .inr (.inr (.inl e)))))
end
end Go.Proofs.YthnklohpmcebkaaGreatDoor

set_option linter.unusedVariables false
set_option linter.unusedSimpArgs false
namespace Go.Proofs.YthnklohpmcebkaaGreatDoor
open Go.RowKit Tm
def Added (w : World) (B T R mo mg : Nat) (kv nv : Value) (at_ : Int) (code : Int) (g' : Ru) (e : Ending) (w' : World) : Prop :=
  e = .returned (.tuple #[.int .i64 at_, .int .i64 code]) ∧ ∃ kv' nv', TmAt w' B T R mo mg kv' nv' g' ∧ Chg (fun j => j = T ∨ j = R ∨ kv.ownBlock = some j ∨ nv.ownBlock = some j) w w'
theorem AddIs.says {w w' : World} {B T R mo mg : Nat} {kv nv : Value} {g g' : Ru} {n : Nd} {e : Ending} {c : Nat} {x y : Int} (h : AddIs w B T R mo mg kv nv g n e w') (hc : codeOf g n = c) (hx : next g n = g') (hy : (if c = 0 then (g.ks.length : Int) else 0) = x) (hcy : (c : Int) = y) : Added w B T R mo mg kv nv x y g' e w' := by
  obtain ⟨h1, h2⟩ := h
  rw [hc, hy, hcy] at h1
  rw [hx] at h2
  exact ⟨h1, h2⟩
end Go.Proofs.YthnklohpmcebkaaGreatDoor
