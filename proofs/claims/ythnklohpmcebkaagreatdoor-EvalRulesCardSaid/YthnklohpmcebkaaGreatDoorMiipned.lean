/- By program out of: TmTake, TmAdd. -/
import Derived.Test.YthnklohpmcebkaaGreatDoorMdddggp
set_option linter.unusedVariables false
set_option linter.unusedSimpArgs false
namespace Go.Proofs.YthnklohpmcebkaaGreatDoor
open Go.RowKit Tm
def zOpr : Opr := ⟨0, 0, 0, 0, 0⟩
theorem look_opr (x : Int) : (lookL opsV x).getD (.agg #[.int .i64 0, .int .i64 0, .int .i64 0, .int .i64 0, .int .i64 0]) = opV ((oprAt x).getD zOpr) ∧ (lookL opsV x).isSome = (oprAt x).isSome := by
  rw [look_ops]
  cases oprAt x <;> exact ⟨rfl, rfl⟩
theorem zero_opr (w : World) : (zeroValue 113).run Tryz.prog w = .ok (.agg #[.int .i64 0, .int .i64 0, .int .i64 0, .int .i64 0, .int .i64 0]) w := by go_simp
theorem opr_one (a b c d e : Int) : (#[.int .i64 a, .int .i64 b, .int .i64 c, .int .i64 d, .int .i64 e] : Array Value).all (·.oneCell') = true := by
  refine all_oneCell_toArray (cs := [.int .i64 a, .int .i64 b, .int .i64 c, .int .i64 d, .int .i64 e]) ?_
  intro u hu
  simp only [List.mem_cons, List.not_mem_nil, or_false] at hu
  rcases hu with rfl | rfl | rfl | rfl | rfl <;> rfl
theorem kd_one (k : Kd) : ∀ u ∈ k2 k, u.oneCell' = true := by
  intro u hu
  simp only [k2, List.mem_cons, List.not_mem_nil, or_false] at hu
  rcases hu with rfl | rfl <;> rfl
theorem kd_new (w : World) (k : Kd) : ∀ j u, (k2 k)[j]? = some u → (w.alloc (.cells #[.int .i64 k.1, .bool k.2] 90)).cell? ((⟨w.heap.size, 0, none⟩ : Addr).add j) = some u := fun j u hu => by
  rw [Addr.add_mid]
  exact rangeAt_new w (k2 k) 90 j u hu
theorem codeOf_some {g : Ru} {n : Nd} {o : Opr} (h : oprAt n.op = some o) : codeOf g n = if told g n o.sort = false then 1 else if n.kids.any (fun x => !has g.ks x) = true then 2 else if counts o n.kids.length = false then 15 else if sorted g.ks n.kids o = false then 14 else if linear g.ks n = false then 16 else if 1048576 ≤ g.ks.length then 4 else 0 := by
  unfold codeOf
  rw [h]
theorem least_of {x : Int} {o : Opr} (h : oprAt x = some o) : (x = 21 → o.least = 2) ∧ (o.sort = 0 → o.least = 3) := by
  have key : ∀ (M : List (Int × Opr)), (∀ e ∈ M, (e.1 = 21 → e.2.least = 2) ∧ (e.2.sort = 0 → e.2.least = 3)) → lookL M x = some o → (x = 21 → o.least = 2) ∧ (o.sort = 0 → o.least = 3) := by
    intro M
    induction M with
    | nil => intro _ h; cases h
    | cons e M ih =>
      intro hM h
      unfold lookL at h
      split at h
      · rename_i hx
        cases Option.some.inj h
        rw [hx]
        exact hM e (by simp)
      · exact ih (fun e he => hM e (by simp [he])) h
  refine key oprs ?_ h
  intro e he
  simp only [oprs, List.mem_cons, List.not_mem_nil, or_false] at he
  rcases he with rfl | rfl | rfl | rfl | rfl | rfl | rfl | rfl | rfl | rfl | rfl | rfl | rfl | rfl | rfl | rfl | rfl | rfl | rfl | rfl | rfl <;> decide
def TookIs (w : World) (B R mo mg : Nat) (kv : Value) (g : Ru) (n : Nd) (e : Ending) (w' : World) : Prop :=
  e = .returned (.int .i64 (codeOf g n : Int)) ∧ ∃ kv', RuAt w' B R mo mg kv' (next g n) ∧ Chg (fun j => j = R ∨ kv.ownBlock = some j) w w' ∧ ∀ j, kv'.ownBlock = some j → kv.ownBlock = some j ∨ w.heap.size ≤ j
section
variable {w w' : World} {B R mo mg : Nat} {kv : Value} {g : Ru} {n : Nd} {ka : Option Addr} {kc : Nat} {s : Bool} {a1 : Option Addr} {l1 c1 : Nat} {a2 : Option Addr} {l2 c2 : Nat}
theorem TookIs.no {c : Nat} {v : Value} (h : RuAt w B R mo mg kv g) (hb : Below w.heap.size w w') (hc : codeOf g n = c) (h0 : c ≠ 0) (hv : v = .int .i64 (c : Int)) : TookIs w B R mo mg kv g n (.returned v) w' := by
  refine ⟨by rw [hv, hc], kv, ?_, .of_below hb, fun j hj => .inl hj⟩
  have : next g n = g := by unfold next; rw [if_neg (by omega)]
  rw [this]
  exact h.kept hb
theorem TookIs.yes {w1 : World} {k : Kd} {kv' : Value} (h : RuAt w B R mo mg kv g) (hc : codeOf g n = 0) (hx : next g n = { g with ks := g.ks ++ [k] }) (hb : Below w.heap.size w w1) (h1 : RuAt w' B R mo mg kv' { g with ks := g.ks ++ [k] }) (h2 : Chg (fun j => j = R ∨ kv.ownBlock = some j) w1 w') (h3 : ∀ j, kv'.ownBlock = some j → kv.ownBlock = some j ∨ w1.heap.size ≤ j) :
    TookIs w B R mo mg kv g n (.returned (.int .i64 0)) w' :=
  ⟨by rw [hc]; rfl, kv', by rw [hx]; exact h1, (Chg.of_below hb).trans (h2.mono fun j _ hj => .inl hj), fun j hj => (h3 j hj).imp id (fun e => Nat.le_trans hb.size e)⟩
structure TkSt (w W : World) (p R : Nat) (n : Nd) (ka : Option Addr) (kc : Nat) (s : Bool) (a1 : Option Addr) (l1 c1 : Nat) (a2 : Option Addr) (l2 c2 : Nat) (o : Opr) : Prop where
  ptr : W.cell? ⟨p, 0, none⟩ = some (.pointer (some ⟨R, 0, none⟩))
  node : W.rangeAt (p + 1) 0 [.int .i64 n.op, .int .i64 n.v, .slice ka n.kids.length kc, .bool s, .slice a1 l1 c1, .slice a2 l2 c2]
  opr : W.rangeAt (p + 2) 0 [.int .i64 o.least, .int .i64 o.most, .int .i64 o.first, .int .i64 o.others, .int .i64 o.sort]
  below : Below w.heap.size w W
  lt : p + 2 < W.heap.size
theorem TkSt.kept {W W' : World} {p : Nat} {o : Opr} (h : TkSt w W p R n ka kc s a1 l1 c1 a2 l2 c2 o) (hb : Below W.heap.size W W') : TkSt w W' p R n ka kc s a1 l1 c1 a2 l2 c2 o := by
  have hl := h.lt
  exact ⟨(hb.cell (p := ⟨p, 0, none⟩) (by show p < _; omega)).trans h.ptr, rangeAt_kept h.node hb (by omega), rangeAt_kept h.opr hb (by omega), h.below.trans (hb.mono h.below.size), Nat.lt_of_lt_of_le hl hb.size⟩
theorem TkSt.cells {W : World} {p : Nat} {o : Opr} (h : TkSt w W p R n ka kc s a1 l1 c1 a2 l2 c2 o) : W.cell? ⟨p, 0, none⟩ = some (.pointer (some ⟨R, 0, none⟩)) ∧ W.cell? ⟨p + 1, 2, none⟩ = some (.slice ka n.kids.length kc) ∧ W.cell? ⟨p + 2, 4, none⟩ = some (.int .i64 o.sort) :=
  ⟨h.ptr, h.node 2 _ rfl, h.opr 4 _ rfl⟩
def Thr (p : Nat) (W w' : World) : Prop := ∀ j, p ≤ j → j < p + 3 → w'.heap[j]? = W.heap[j]?
theorem Thr.kept {p : Nat} {W W1 W2 : World} (h : Thr p W W1) (hb : Below W1.heap.size W1 W2) (hl : p + 2 < W1.heap.size) : Thr p W W2 := fun j h1 h2 => (hb.block j (by omega)).trans (h j h1 h2)
theorem TkSt.thr {W W' : World} {p : Nat} {o : Opr} (h : TkSt w W p R n ka kc s a1 l1 c1 a2 l2 c2 o) (ht : Thr p W W') : W'.cell? ⟨p, 0, none⟩ = some (.pointer (some ⟨R, 0, none⟩)) ∧ W'.cell? ⟨p + 1, 2, none⟩ = some (.slice ka n.kids.length kc) ∧ W'.cell? ⟨p + 2, 4, none⟩ = some (.int .i64 o.sort) ∧ W'.rangeAt (p + 1) 0 [.int .i64 n.op, .int .i64 n.v, .slice ka n.kids.length kc, .bool s, .slice a1 l1 c1, .slice a2 l2 c2] := by
  have hn : W'.rangeAt (p + 1) 0 [.int .i64 n.op, .int .i64 n.v, .slice ka n.kids.length kc, .bool s, .slice a1 l1 c1, .slice a2 l2 c2] := fun j u hu => (World.cell?_of_block (a := ⟨p + 1, 0 + j, none⟩) (ht (p + 1) (by omega) (by omega))).trans (h.node j u hu)
  exact ⟨(World.cell?_of_block (a := ⟨p, 0, none⟩) (ht p (by omega) (by omega))).trans h.ptr, hn 2 _ rfl, (World.cell?_of_block (a := ⟨p + 2, 4, none⟩) (ht (p + 2) (by omega) (by omega))).trans (h.opr 4 _ rfl), hn⟩
theorem load_kv {oo : Oper} {a : Act} {w : World} (x : Operand) (ho : oo.op = .load 109 x) {b off : Nat} (hx : a.eval x = .pointer (some ⟨b, off, none⟩)) {v : Value} (hc : w.cell? ⟨b, off, none⟩ = some v) : (execOp a.eval oo).run Tryz.prog w = .ok (.value v) w := by
  unfold execOp
  simp only [ho, hx]
  go_simp
theorem take_fin {W W5 : World} {k : Kd} {kv' : Value} (h : RuAt W B R mo mg kv g) (hown : W5.ownsRow B 90 2 kv' (g.ks.length + 1) (kindC g.ks ++ k2 k)) (hg : W.grownBy W5 kv.ownBlock) (hnew : ∀ j, kv'.ownBlock = some j → kv.ownBlock = some j ∨ W.heap.size ≤ j) :
    (W5.cell? ⟨R, 2, none⟩ = some kv ∧ W5.frozen? ⟨R, 2, none⟩ = false) ∧ RuAt (W5.setCell ⟨R, 2, none⟩ kv') B R mo mg kv' { g with ks := g.ks ++ [k] } ∧ Chg (fun j => j = R ∨ kv.ownBlock = some j) W (W5.setCell ⟨R, 2, none⟩ kv') := by
  have hsz := h.sizes
  have c1 : Chg (fun j => kv.ownBlock = some j) W W5 := .of_grown hg (fun j hj => hj)
  have c2 : Chg (fun j => j = R) W5 (W5.setCell ⟨R, 2, none⟩ kv') := chg_setCell (S := fun j => j = R) rfl _ _ _
  have hkR : kv.ownBlock ≠ some R := fun e => by
    obtain ⟨_, cur, hc⟩ := own_tag h.row e
    rw [h.head] at hc
    have := (Obj.cells.inj (Option.some.inj hc)).2.1
    revert this
    decide
  have hkm : ∀ b M, IM W b M → kv.ownBlock ≠ some b := fun b M hi e => by
    obtain ⟨_, cur, hc⟩ := own_tag h.row e
    exact hi.ne hc rfl
  have hh5 : W5.heap[R]? = some (.cells #[.map (some mo), .map (some mg), kv] 111 (0, 0)) := (c1.block R hsz.1 hkR).trans h.head
  have hmo5 : IM W5 mo opsV := h.ops.chg c1 (hkm _ _ h.ops)
  have hmg5 := h.great.chg c1 (hkm _ _ h.great)
  refine ⟨by simp [World.cell?, World.frozen?, hh5], ⟨?_, hmo5.chg c2 (hmo5.ne hh5), hmg5.chg c2 (hmg5.ne hh5), ?_, h.low⟩, (c1.mono (S' := fun j => j = R ∨ kv.ownBlock = some j) (fun j _ hj => .inr hj)).trans (c2.mono (fun j _ hj => .inl (.inl hj)))⟩
  · rw [heap_setCell_same W5 R 2 _ _ _ hh5]
    rfl
  · have : kindC (g.ks ++ [k]) = kindC g.ks ++ k2 k := by rw [kindC_app]; simp [kindC]
    show World.ownsRow _ B _ 2 kv' (g.ks ++ [k]).length (kindC (g.ks ++ [k]))
    rw [this, List.length_append, List.length_singleton]
    exact ownsRow_chg hown c2 (fun j hj e => by
      subst e
      obtain ⟨_, cur, hc⟩ := own_tag hown hj
      rw [hh5] at hc
      have := (Obj.cells.inj (Option.some.inj hc)).2.1
      revert this
      decide)
set_option maxRecDepth 100000 in
set_option maxHeartbeats 8000000 in
theorem take_any (h : RuAt w B R mo mg kv g) (hn : NodeAt w n ka kc s a1 l1 c1 a2 l2 c2) (hB : B ≤ w.heap.size) :
    Calls Tryz.prog 32 #[.pointer (some ⟨R, 0, none⟩), .agg #[.int .i64 n.op, .int .i64 n.v, .slice ka n.kids.length kc, .bool s, .slice a1 l1 c1, .slice a2 l2 c2]] w (TookIs w B R mo mg kv g n) := by
  obtain ⟨W2, hW2⟩ : ∃ W2, W2 = (w.alloc (.cells #[.pointer (some ⟨R, 0, none⟩)] 83)).alloc (.cells #[.int .i64 n.op, .int .i64 n.v, .slice ka n.kids.length kc, .bool s, .slice a1 l1 c1, .slice a2 l2 c2] 33) := ⟨_, rfl⟩
  obtain ⟨o, ho⟩ : ∃ o, (oprAt n.op).getD zOpr = o := ⟨_, rfl⟩
  obtain ⟨q, hq⟩ : ∃ q, (oprAt n.op).isSome = q := ⟨_, rfl⟩
  have HL : Hid ((lookL opsV n.op).getD (.agg #[.int .i64 0, .int .i64 0, .int .i64 0, .int .i64 0, .int .i64 0]) = .agg #[.int .i64 o.least, .int .i64 o.most, .int .i64 o.first, .int .i64 o.others, .int .i64 o.sort] ∧ (lookL opsV n.op).isSome = q) := Lib.hid (by
    obtain ⟨q1, q2⟩ := look_opr n.op
    rw [q1, q2, ho, hq]
    exact ⟨rfl, rfl⟩)
  have hb2 : Below w.heap.size w W2 := by rw [hW2]; exact ((Below.refl _ _).alloc (Nat.le_refl _) _).alloc (by simp) _
  have hs2 : W2.heap.size = w.heap.size + 2 := by rw [hW2]; simp
  have hp2 : W2.cell? ⟨w.heap.size, 0, none⟩ = some (.pointer (some ⟨R, 0, none⟩)) := by rw [hW2]; simp
  have hn2 : W2.rangeAt (w.heap.size + 1) 0 [.int .i64 n.op, .int .i64 n.v, .slice ka n.kids.length kc, .bool s, .slice a1 l1 c1, .slice a2 l2 c2] := by
    rw [hW2]
    have := rangeAt_new (w.alloc (.cells #[.pointer (some ⟨R, 0, none⟩)] 83)) [.int .i64 n.op, .int .i64 n.v, .slice ka n.kids.length kc, .bool s, .slice a1 l1 c1, .slice a2 l2 c2] 33
    rw [World.size_alloc] at this
    exact this
  have hru2 := h.kept hb2
  have HX : Hid (W2.drew.cell? ⟨w.heap.size, 0, none⟩ = some (.pointer (some ⟨R, 0, none⟩)) ∧ W2.drew.cell? ⟨w.heap.size + 1, 0, none⟩ = some (.int .i64 n.op) ∧ W2.drew.cell? ⟨R, 0, none⟩ = some (.map (some mo)) ∧ IM W2.drew mo opsV) := Lib.hid ⟨hp2, hn2 0 _ rfl, hru2.cells.1, hru2.ops.past rfl⟩
  obtain ⟨W5, hW5⟩ : ∃ W5, W5 = W2.drew.alloc (.cells #[.int .i64 o.least, .int .i64 o.most, .int .i64 o.first, .int .i64 o.others, .int .i64 o.sort] 113) := ⟨_, rfl⟩
  have hb5 : Below W2.heap.size W2 W5 := by rw [hW5]; exact (Below.refl _ _).drew.alloc (Nat.le_refl _) _
  have HTK : Hid (TkSt w W5 w.heap.size R n ka kc s a1 l1 c1 a2 l2 c2 o) := Lib.hid (by
    refine ⟨(hb5.cell (p := ⟨w.heap.size, 0, none⟩) (by show w.heap.size < _; omega)).trans hp2, rangeAt_kept hn2 hb5 (by omega), ?_, hb2.trans (hb5.mono hb2.size), ?_⟩
    · have := rangeAt_new W2.drew [.int .i64 o.least, .int .i64 o.most, .int .i64 o.first, .int .i64 o.others, .int .i64 o.sort] 113
      rw [hW5, ← hs2]
      exact this
    · rw [hW5]
      simp
      omega)
  have HS2 := Lib.hid hs2
  have HRU : Hid (RuAt W5 B R mo mg kv g) := Lib.hid (hru2.kept hb5)
  have HND : Hid (NodeAt W5 n ka kc s a1 l1 c1 a2 l2 c2) := Lib.hid (hn.kept (hb2.trans (hb5.mono hb2.size)))
  have HH := Lib.hid (And.intro h (And.intro hB (And.intro ho hq)))
  have hs2' : W2.drew.heap.size = w.heap.size + 2 := hs2
  have al0 := (Below.refl W2.drew.heap.size W2.drew).alloc (Nat.le_refl _) (.cells #[.int .i64 0, .int .i64 0, .int .i64 0, .int .i64 0, .int .i64 0] 113)
  have al1 := (Below.refl W2.drew.heap.size W2.drew).alloc (Nat.le_refl _) (.cells #[.int .i64 o.least, .int .i64 o.most, .int .i64 o.first, .int .i64 o.others, .int .i64 o.sort] 113)
  clear h hn hB hb2 hs2 hp2 hn2 hru2 hb5 ho hq
  go_enter Tryz.func32, Tryz.ntmps32
  go_wp2_with fail
  rw [← hW2]
  clear hW2
  refine wp_region_held_drew (S := (fun w' => w'.cell? ⟨w.heap.size, 0, none⟩ = some (.pointer (some ⟨R, 0, none⟩)) ∧ w'.cell? ⟨w.heap.size + 1, 0, none⟩ = some (.int .i64 n.op) ∧ w'.cell? ⟨R, 0, none⟩ = some (.map (some mo)) ∧ IM w' mo opsV)) (by kernel_rfl) ?_ (fun hHeld => ?_)
  · exact HX.out
  refine wpAnyH_take (i := 0) (v := .pointer (some ⟨R, 0, none⟩)) (by rfl) (by kernel_rfl) (by kernel_rfl) (by kernel_rfl) (by exact fun _ _ _ h => h) (Or.inl ⟨by rfl, ?_⟩) hHeld ?_
  · intro w' hSw
    obtain ⟨s1, s2, s3, s4⟩ := hSw
    go_simp
  try simp only [Act.put, List.setIfInBounds_toArray, List.set_cons_zero, List.set_cons_succ, List.getElem_toArray, List.getElem_cons_zero, List.getElem_cons_succ]
  refine wpAnyH_take (i := 1) (v := ?_) (by rfl) (by kernel_rfl) (by kernel_rfl) (by kernel_rfl) (by exact fun _ _ _ h => h) (Or.inl ⟨by rfl, ?_⟩) hHeld ?_
  rotate_left 1
  · intro w' hSw
    (try dsimp only at hSw)
    go_simp
    try with_reducible rfl
  try simp only [Act.put, List.setIfInBounds_toArray, List.set_cons_zero, List.set_cons_succ, List.getElem_toArray, List.getElem_cons_zero, List.getElem_cons_succ]
  refine wpAnyH_take (i := 2) (v := ?_) (by rfl) (by kernel_rfl) (by kernel_rfl) (by kernel_rfl) (by exact fun _ _ _ h => h) (Or.inl ⟨by rfl, ?_⟩) hHeld ?_
  rotate_left 1
  · intro w' hSw
    (try dsimp only at hSw)
    go_simp
    try with_reducible rfl
  try simp only [Act.put, List.setIfInBounds_toArray, List.set_cons_zero, List.set_cons_succ, List.getElem_toArray, List.getElem_cons_zero, List.getElem_cons_succ]
  refine wpAnyH_take (i := 3) (v := .map (some mo)) (by rfl) (by kernel_rfl) (by kernel_rfl) (by kernel_rfl) (by exact fun _ _ _ h => h) (Or.inl ⟨by rfl, ?_⟩) hHeld ?_
  · intro w' hSw
    obtain ⟨s1, s2, s3, s4⟩ := hSw
    go_simp
  try simp only [Act.put, List.setIfInBounds_toArray, List.set_cons_zero, List.set_cons_succ, List.getElem_toArray, List.getElem_cons_zero, List.getElem_cons_succ]
  refine wpAnyH_take (i := 4) (v := ?_) (by rfl) (by kernel_rfl) (by kernel_rfl) (by kernel_rfl) (by exact fun _ _ _ h => h) (Or.inl ⟨by rfl, ?_⟩) hHeld ?_
  rotate_left 1
  · intro w' hSw
    (try dsimp only at hSw)
    go_simp
    try with_reducible rfl
  try simp only [Act.put, List.setIfInBounds_toArray, List.set_cons_zero, List.set_cons_succ, List.getElem_toArray, List.getElem_cons_zero, List.getElem_cons_succ]
  refine wpAnyH_take (i := 5) (v := .int .i64 n.op) (by rfl) (by kernel_rfl) (by kernel_rfl) (by kernel_rfl) (by exact fun _ _ _ h => h) (Or.inl ⟨by rfl, ?_⟩) hHeld ?_
  · intro w' hSw
    obtain ⟨s1, s2, s3, s4⟩ := hSw
    go_simp
  try simp only [Act.put, List.setIfInBounds_toArray, List.set_cons_zero, List.set_cons_succ, List.getElem_toArray, List.getElem_cons_zero, List.getElem_cons_succ]
  refine wpAnyH_take (i := 6) (v := .tuple #[.agg #[.int .i64 o.least, .int .i64 o.most, .int .i64 o.first, .int .i64 o.others, .int .i64 o.sort], .bool q]) (by rfl) (by kernel_rfl) (by kernel_rfl) (by kernel_rfl) (by exact fun _ _ _ h => h) (Or.inl ⟨by rfl, ?_⟩) hHeld ?_
  · intro w' hSw
    exact run_look2_op (.tmp 11) (.tmp 13) rfl Tryz.underlying106 Tryz.underlying3 (.agg #[.int .i64 0, .int .i64 0, .int .i64 0, .int .i64 0, .int .i64 0]) (zero_opr _) mo rfl n.op rfl _ hSw.2.2.2 _ _ HL.out.1 HL.out.2
  try simp only [Act.put, List.setIfInBounds_toArray, List.set_cons_zero, List.set_cons_succ, List.getElem_toArray, List.getElem_cons_zero, List.getElem_cons_succ]
  refine wpAnyH_take (i := 7) (v := ?_) (by rfl) (by kernel_rfl) (by kernel_rfl) (by kernel_rfl) (by exact fun _ _ _ h => h) (Or.inl ⟨by rfl, ?_⟩) hHeld ?_
  rotate_left 1
  · intro w' hSw
    (try dsimp only at hSw)
    go_simp
    try with_reducible rfl
  try simp only [Act.put, List.setIfInBounds_toArray, List.set_cons_zero, List.set_cons_succ, List.getElem_toArray, List.getElem_cons_zero, List.getElem_cons_succ]
  refine wpAnyH_take (i := 8) (v := ?_) (by rfl) (by kernel_rfl) (by kernel_rfl) (by kernel_rfl) (by exact fun _ _ _ h => h) (Or.inl ⟨by rfl, ?_⟩) hHeld ?_
  rotate_left 1
  · intro w' hSw
    (try dsimp only at hSw)
    go_simp
    try with_reducible rfl
  try simp only [Act.put, List.setIfInBounds_toArray, List.set_cons_zero, List.set_cons_succ, List.getElem_toArray, List.getElem_cons_zero, List.getElem_cons_succ]
  refine wpAnyH_take (i := 9) (v := ?_) (by rfl) (by kernel_rfl) (by kernel_rfl) (by kernel_rfl) (by exact fun _ _ _ h => h) (Or.inl ⟨by rfl, ?_⟩) hHeld ?_
  rotate_left 1
  · intro w' hSw
    (try dsimp only at hSw)
    go_simp
    try with_reducible rfl
  try simp only [Act.put, List.setIfInBounds_toArray, List.set_cons_zero, List.set_cons_succ, List.getElem_toArray, List.getElem_cons_zero, List.getElem_cons_succ]
  refine wpAnyH_ready (rs := [10]) (by kernel_rfl) (by simp) ?_
  refine AllReadyH.cons (by rfl) (fun K hK => ?_) AllReadyH.nil
  refine Rg.step_alloc_agg rfl 113 rfl #[.int .i64 0, .int .i64 0, .int .i64 0, .int .i64 0, .int .i64 0] zero_opr ?_
  refine hK.out _ _ ?_ (fun hHeld => ?_)
  · exact ⟨(al0.cell (p := ⟨w.heap.size, 0, none⟩) (World.block_lt_of_cell? _ _ HX.out.1)).trans HX.out.1, (al0.cell (p := ⟨w.heap.size + 1, 0, none⟩) (World.block_lt_of_cell? _ _ HX.out.2.1)).trans HX.out.2.1, (al0.cell (p := ⟨R, 0, none⟩) (World.block_lt_of_cell? _ _ HX.out.2.2.1)).trans HX.out.2.2.1, HX.out.2.2.2.past (al0.block mo HX.out.2.2.2.lt)⟩
  clear hK K
  try simp only [Act.put, List.setIfInBounds_toArray, List.set_cons_zero, List.set_cons_succ, List.getElem_toArray, List.getElem_cons_zero, List.getElem_cons_succ]
  refine wpAnyH_ready (rs := [11]) (by kernel_rfl) (by simp) ?_
  refine AllReadyH.cons (by rfl) (fun K hK => ?_) AllReadyH.nil
  refine Rg.step_store_new rfl 113 (.tmp 5) (.tmp 15) rfl W2.drew #[.int .i64 0, .int .i64 0, .int .i64 0, .int .i64 0, .int .i64 0] #[.int .i64 o.least, .int .i64 o.most, .int .i64 o.first, .int .i64 o.others, .int .i64 o.sort] (by rfl) (by rfl) rfl (by rw [size_opr]; rfl) rfl (opr_one _ _ _ _ _) ?_
  refine hK.out _ _ ?_ (fun hHeld => ?_)
  · exact ⟨(al1.cell (p := ⟨w.heap.size, 0, none⟩) (World.block_lt_of_cell? _ _ HX.out.1)).trans HX.out.1, (al1.cell (p := ⟨w.heap.size + 1, 0, none⟩) (World.block_lt_of_cell? _ _ HX.out.2.1)).trans HX.out.2.1, (al1.cell (p := ⟨R, 0, none⟩) (World.block_lt_of_cell? _ _ HX.out.2.2.1)).trans HX.out.2.2.1, HX.out.2.2.2.past (al1.block mo HX.out.2.2.2.lt)⟩
  clear hK K
  try simp only [Act.put, List.setIfInBounds_toArray, List.set_cons_zero, List.set_cons_succ, List.getElem_toArray, List.getElem_cons_zero, List.getElem_cons_succ]
  refine wpAnyH_take (i := 12) (v := ?_) (by rfl) (by kernel_rfl) (by kernel_rfl) (by kernel_rfl) (by exact fun _ _ _ h => h) (Or.inl ⟨by rfl, ?_⟩) hHeld ?_
  rotate_left 1
  · intro w' hSw
    (try dsimp only at hSw)
    go_simp
    try with_reducible rfl
  try simp only [Act.put, List.setIfInBounds_toArray, List.set_cons_zero, List.set_cons_succ, List.getElem_toArray, List.getElem_cons_zero, List.getElem_cons_succ]
  refine wpAnyH_done (by kernel_rfl) ?_ _
  clear hHeld
  rw [← hW5]
  clear hW5 al0 al1
  have hsl : W2.drew.heap.size = w.heap.size + 2 := hs2'
  obtain ⟨x1, x2, x3⟩ := HTK.out.cells
  have HB : Hid (Below W5.heap.size W5 W5) := Lib.hid (Below.refl _ _)
  cases q with
  | false =>
    have hnone : oprAt n.op = none := by have := HH.out.2.2.2; cases hh : oprAt n.op with | none => rfl | some z => rw [hh] at this; cases this
    have HC0 : Hid (codeOf g n = 1) := Lib.hid (by unfold codeOf; rw [hnone])
    clear hnone
    go_wp2_with fail
    go_ret
    exact TookIs.no HH.out.1 HTK.out.below HC0.out (by decide) rfl
  | true =>
    have hop : oprAt n.op = some o := by have h1 := HH.out.2.2.1; have h2 := HH.out.2.2.2; cases hh : oprAt n.op with | none => rw [hh] at h2; cases h2 | some z => rw [hh] at h1; exact congrArg some h1
    have HCODE := Lib.hid (codeOf_some (g := g) hop)
    have HLE := Lib.hid (least_of hop)
    have HOP := Lib.hid hop
    have C1 : Hid (∀ W, Below W5.heap.size W5 W → Calls Tryz.prog 52 #[.pointer (some ⟨R, 0, none⟩), .agg #[.int .i64 n.op, .int .i64 n.v, .slice ka n.kids.length kc, .bool s, .slice a1 l1 c1, .slice a2 l2 c2], .int .i64 o.sort] W (GivesV (.bool (told g n o.sort)) W)) := Lib.hid fun W hW => told_any (HRU.out.kept hW) (HND.out.kept hW) o.sort
    have C2 : Hid (∀ W, Below W5.heap.size W5 W → Calls Tryz.prog 19 #[.slice ka n.kids.length kc, .func (.func 53) #[] #[.pointer (some ⟨w.heap.size, 0, none⟩)]] W (GivesV (.bool (n.kids.any (fun x => !has g.ks x))) W)) := Lib.hid fun W hW => contains_far (w := W) (b := w.heap.size) (fun W' hW' x => far_any ((HRU.out.kept hW).kept hW') ((HTK.out.kept hW).kept hW').ptr x) (HND.out.kids.kept hW)
    have C3 : Hid (∀ W, Calls Tryz.prog 55 #[.agg #[.int .i64 o.least, .int .i64 o.most, .int .i64 o.first, .int .i64 o.others, .int .i64 o.sort], .int .i64 (n.kids.length : Int)] W (GivesV (.bool (counts o n.kids.length)) W)) := Lib.hid fun W => counts_any W o n.kids.length
    have C4 : Hid (∀ W, Below W5.heap.size W5 W → Calls Tryz.prog 56 #[.pointer (some ⟨R, 0, none⟩), .slice ka n.kids.length kc, .agg #[.int .i64 o.least, .int .i64 o.most, .int .i64 o.first, .int .i64 o.others, .int .i64 o.sort]] W (GivesV (.bool (sorted g.ks n.kids o)) W)) := Lib.hid fun W hW => sorted_any (HRU.out.kept hW) (HND.out.kids.kept hW) o
    have C5 : Hid (counts o n.kids.length = true → ∀ W, Below W5.heap.size W5 W → Calls Tryz.prog 57 #[.pointer (some ⟨R, 0, none⟩), .agg #[.int .i64 n.op, .int .i64 n.v, .slice ka n.kids.length kc, .bool s, .slice a1 l1 c1, .slice a2 l2 c2]] W (GivesV (.bool (linear g.ks n)) W)) := Lib.hid fun hc W hW => linear_any (HRU.out.kept hW) n (HND.out.kids.kept hW) s a1 l1 c1 a2 l2 c2 (fun h21 => by
      have := HLE.out.1 h21
      unfold counts at hc
      rw [Bool.and_eq_true, decide_eq_true_eq] at hc
      have := hc.1
      omega)
    have C6 : Hid (counts o n.kids.length = true → ∀ W, Below W5.heap.size W5 W → Calls Tryz.prog 58 #[.pointer (some ⟨R, 0, none⟩), .slice ka n.kids.length kc, .int .i64 o.sort] W (GivesV (.int .i64 (sortOver g.ks n.kids o.sort)) W)) := Lib.hid fun hc W hW => sortOver_any (HRU.out.kept hW) (HND.out.kids.kept hW) o.sort (fun h0 e => by
      have h3 := HLE.out.2 h0
      unfold counts at hc
      rw [Bool.and_eq_true, decide_eq_true_eq, e] at hc
      have := hc.1
      simp at this
      omega)
    have C7 : Hid (∀ W, Below W5.heap.size W5 W → Calls Tryz.prog 59 #[.pointer (some ⟨R, 0, none⟩), .agg #[.int .i64 n.op, .int .i64 n.v, .slice ka n.kids.length kc, .bool s, .slice a1 l1 c1, .slice a2 l2 c2]] W (GivesV (.bool (ground g.ks n)) W)) := Lib.hid fun W hW => ground_any (HRU.out.kept hW) n (HND.out.kids.kept hW) s a1 l1 c1 a2 l2 c2
    have HNX : Hid (codeOf g n = 0 → next g n = { g with ks := g.ks ++ [(sortOver g.ks n.kids o.sort, ground g.ks n)] }) := Lib.hid fun h0 => by
      unfold next sortOf
      rw [if_pos h0, hop]
      rfl
    clear hop
    generalize sortOver g.ks n.kids o.sort = so at *
    generalize ground g.ks n = gd at *
    generalize told g n o.sort = t1 at *
    generalize n.kids.any (fun x => !has g.ks x) = t2 at *
    generalize counts o n.kids.length = t3 at *
    generalize sorted g.ks n.kids o = t4 at *
    generalize linear g.ks n = t5 at *
    go_wp2_with (first | (refine wpList_val (.agg #[.int .i64 n.op, .int .i64 n.v, .slice ka n.kids.length kc, .bool s, .slice a1 l1 c1, .slice a2 l2 c2]) (run_load_op 33 (.tmp 3) (by with_reducible rfl) (w.heap.size + 1) 0 (by rfl) [.int .i64 n.op, .int .i64 n.v, .slice ka n.kids.length kc, .bool s, .slice a1 l1 c1, .slice a2 l2 c2] _ HTK.out.node Tryz.underlying33 rfl (by rw [size_node]; rfl)) (by rfl) ?_) | (refine wpList_val (.agg #[.int .i64 o.least, .int .i64 o.most, .int .i64 o.first, .int .i64 o.others, .int .i64 o.sort]) (run_load_op 113 (.tmp 5) (by with_reducible rfl) (w.heap.size + 2) 0 (by rfl) [.int .i64 o.least, .int .i64 o.most, .int .i64 o.first, .int .i64 o.others, .int .i64 o.sort] _ HTK.out.opr Tryz.underlying113 rfl (by rw [size_opr]; rfl)) (by rfl) ?_))
    refine (C1.out _ HB.out).mono ?_
    rintro e W6 ⟨rfl, hb⟩
    have HB6 := Lib.hid (HB.out.trans (hb.mono HB.out.size))
    have HTK6 := Lib.hid (HTK.out.kept hb)
    clear HB HTK hb x1 x2 x3
    have HB := HB6
    have HTK := HTK6
    clear HB6 HTK6
    obtain ⟨x1, x2, x3⟩ := HTK.out.cells
    cases t1 with
    | false =>
      have HC0 : Hid (codeOf g n = 1) := Lib.hid (by rw [HCODE.out]; simp)
      go_wp2_with fail
      go_ret
      exact TookIs.no HH.out.1 HTK.out.below HC0.out (by decide) rfl
    | true =>
      go_wp2_with (first | (refine wpList_val (.agg #[.int .i64 n.op, .int .i64 n.v, .slice ka n.kids.length kc, .bool s, .slice a1 l1 c1, .slice a2 l2 c2]) (run_load_op 33 (.tmp 3) (by with_reducible rfl) (w.heap.size + 1) 0 (by rfl) [.int .i64 n.op, .int .i64 n.v, .slice ka n.kids.length kc, .bool s, .slice a1 l1 c1, .slice a2 l2 c2] _ HTK.out.node Tryz.underlying33 rfl (by rw [size_node]; rfl)) (by rfl) ?_) | (refine wpList_val (.agg #[.int .i64 o.least, .int .i64 o.most, .int .i64 o.first, .int .i64 o.others, .int .i64 o.sort]) (run_load_op 113 (.tmp 5) (by with_reducible rfl) (w.heap.size + 2) 0 (by rfl) [.int .i64 o.least, .int .i64 o.most, .int .i64 o.first, .int .i64 o.others, .int .i64 o.sort] _ HTK.out.opr Tryz.underlying113 rfl (by rw [size_opr]; rfl)) (by rfl) ?_))
      refine (C2.out _ HB.out).mono ?_
      rintro e W7 ⟨rfl, hb⟩
      have HB7 := Lib.hid (HB.out.trans (hb.mono HB.out.size))
      have HTK7 := Lib.hid (HTK.out.kept hb)
      clear HB HTK hb x1 x2 x3
      have HB := HB7
      have HTK := HTK7
      clear HB7 HTK7
      obtain ⟨x1, x2, x3⟩ := HTK.out.cells
      cases t2 with
      | true =>
        have HC0 : Hid (codeOf g n = 2) := Lib.hid (by rw [HCODE.out]; simp)
        go_wp2_with fail
        go_ret
        exact TookIs.no HH.out.1 HTK.out.below HC0.out (by decide) rfl
      | false =>
        go_wp2_with (first | (refine wpList_val (.agg #[.int .i64 n.op, .int .i64 n.v, .slice ka n.kids.length kc, .bool s, .slice a1 l1 c1, .slice a2 l2 c2]) (run_load_op 33 (.tmp 3) (by with_reducible rfl) (w.heap.size + 1) 0 (by rfl) [.int .i64 n.op, .int .i64 n.v, .slice ka n.kids.length kc, .bool s, .slice a1 l1 c1, .slice a2 l2 c2] _ HTK.out.node Tryz.underlying33 rfl (by rw [size_node]; rfl)) (by rfl) ?_) | (refine wpList_val (.agg #[.int .i64 o.least, .int .i64 o.most, .int .i64 o.first, .int .i64 o.others, .int .i64 o.sort]) (run_load_op 113 (.tmp 5) (by with_reducible rfl) (w.heap.size + 2) 0 (by rfl) [.int .i64 o.least, .int .i64 o.most, .int .i64 o.first, .int .i64 o.others, .int .i64 o.sort] _ HTK.out.opr Tryz.underlying113 rfl (by rw [size_opr]; rfl)) (by rfl) ?_))
        refine (C3.out _).mono ?_
        rintro e W8 ⟨rfl, hb⟩
        have HB8 := Lib.hid (HB.out.trans (hb.mono HB.out.size))
        have HTK8 := Lib.hid (HTK.out.kept hb)
        clear HB HTK hb x1 x2 x3
        have HB := HB8
        have HTK := HTK8
        clear HB8 HTK8
        obtain ⟨x1, x2, x3⟩ := HTK.out.cells
        cases t3 with
        | false =>
          have HC0 : Hid (codeOf g n = 15) := Lib.hid (by rw [HCODE.out]; simp)
          go_wp2_with fail
          go_ret
          exact TookIs.no HH.out.1 HTK.out.below HC0.out (by decide) rfl
        | true =>
          go_wp2_with (first | (refine wpList_val (.agg #[.int .i64 n.op, .int .i64 n.v, .slice ka n.kids.length kc, .bool s, .slice a1 l1 c1, .slice a2 l2 c2]) (run_load_op 33 (.tmp 3) (by with_reducible rfl) (w.heap.size + 1) 0 (by rfl) [.int .i64 n.op, .int .i64 n.v, .slice ka n.kids.length kc, .bool s, .slice a1 l1 c1, .slice a2 l2 c2] _ HTK.out.node Tryz.underlying33 rfl (by rw [size_node]; rfl)) (by rfl) ?_) | (refine wpList_val (.agg #[.int .i64 o.least, .int .i64 o.most, .int .i64 o.first, .int .i64 o.others, .int .i64 o.sort]) (run_load_op 113 (.tmp 5) (by with_reducible rfl) (w.heap.size + 2) 0 (by rfl) [.int .i64 o.least, .int .i64 o.most, .int .i64 o.first, .int .i64 o.others, .int .i64 o.sort] _ HTK.out.opr Tryz.underlying113 rfl (by rw [size_opr]; rfl)) (by rfl) ?_))
          refine (C4.out _ HB.out).mono ?_
          rintro e W9 ⟨rfl, hb⟩
          have HB9 := Lib.hid (HB.out.trans (hb.mono HB.out.size))
          have HTK9 := Lib.hid (HTK.out.kept hb)
          clear HB HTK hb x1 x2 x3
          have HB := HB9
          have HTK := HTK9
          clear HB9 HTK9
          obtain ⟨x1, x2, x3⟩ := HTK.out.cells
          cases t4 with
          | false =>
            have HC0 : Hid (codeOf g n = 14) := Lib.hid (by rw [HCODE.out]; simp)
            go_wp2_with fail
            go_ret
            exact TookIs.no HH.out.1 HTK.out.below HC0.out (by decide) rfl
          | true =>
            go_wp2_with (first | (refine wpList_val (.agg #[.int .i64 n.op, .int .i64 n.v, .slice ka n.kids.length kc, .bool s, .slice a1 l1 c1, .slice a2 l2 c2]) (run_load_op 33 (.tmp 3) (by with_reducible rfl) (w.heap.size + 1) 0 (by rfl) [.int .i64 n.op, .int .i64 n.v, .slice ka n.kids.length kc, .bool s, .slice a1 l1 c1, .slice a2 l2 c2] _ HTK.out.node Tryz.underlying33 rfl (by rw [size_node]; rfl)) (by rfl) ?_) | (refine wpList_val (.agg #[.int .i64 o.least, .int .i64 o.most, .int .i64 o.first, .int .i64 o.others, .int .i64 o.sort]) (run_load_op 113 (.tmp 5) (by with_reducible rfl) (w.heap.size + 2) 0 (by rfl) [.int .i64 o.least, .int .i64 o.most, .int .i64 o.first, .int .i64 o.others, .int .i64 o.sort] _ HTK.out.opr Tryz.underlying113 rfl (by rw [size_opr]; rfl)) (by rfl) ?_))
            refine (C5.out (by first | rfl | trivial) _ HB.out).mono ?_
            rintro e W10 ⟨rfl, hb⟩
            have HB10 := Lib.hid (HB.out.trans (hb.mono HB.out.size))
            have HTK10 := Lib.hid (HTK.out.kept hb)
            clear HB HTK hb x1 x2 x3
            have HB := HB10
            have HTK := HTK10
            clear HB10 HTK10
            obtain ⟨x1, x2, x3⟩ := HTK.out.cells
            cases t5 with
            | false =>
              have HC0 : Hid (codeOf g n = 16) := Lib.hid (by rw [HCODE.out]; simp)
              go_wp2_with fail
              go_ret
              exact TookIs.no HH.out.1 HTK.out.below HC0.out (by decide) rfl
            | true =>
              have hru := HRU.out.kept HB.out
              obtain ⟨ca, cc, hkv, _, _⟩ := own_value hru.row
              have hkc := hru.cells.2.2.1
              have hkc2 := hkc
              rw [hkv] at hkc2
              have HKV := Lib.hid hkv
              obtain ⟨len, hlen⟩ : ∃ len, g.ks.length = len := ⟨_, rfl⟩
              have HLEN := Lib.hid hlen
              rw [hlen] at hkc2
              have HKC := Lib.hid hkc
              clear hru hkv hlen hkc
              by_cases hfull : 1048576 ≤ len
              · have hf1 : (1048576 : Int) ≤ (len : Int) := by omega
                have HC0 : Hid (codeOf g n = 4) := Lib.hid (by rw [HCODE.out, HLEN.out]; simp [hfull])
                clear hfull
                go_wp2_with fail
                go_ret
                exact TookIs.no HH.out.1 HTK.out.below HC0.out (by decide) rfl
              · have hf1 : ¬ (1048576 : Int) ≤ (len : Int) := by omega
                have HC0 : Hid (codeOf g n = 0) := Lib.hid (by rw [HCODE.out, HLEN.out]; simp [hfull])
                have HFEW : Hid (len + 1 ≤ 2000000) := Lib.hid (by omega)
                have hf2 : decide ((1048576 : Int) ≤ (len : Int)) = false := by simpa using hf1
                have hf3 : len < 1048576 := by omega
                have hf4 : (len : Int) < 1048576 := by omega
                go_wp2_with fail
                have HBD := Lib.hid HB.out.drew
                have HTD : Hid (TkSt w W10.drew w.heap.size R n ka kc s a1 l1 c1 a2 l2 c2 o) := Lib.hid (HTK.out.kept (Below.refl _ _).drew)
                have HT0 : Hid (Thr w.heap.size W10.drew W10.drew) := Lib.hid (fun j _ _ => rfl)
                have HKD : Hid (W10.drew.cell? ⟨R, 2, none⟩ = some kv) := Lib.hid HKC.out
                refine wp_region_held_drew (S := (Thr w.heap.size W10.drew)) (by kernel_rfl) ?_ (fun hHeld => ?_)
                · exact HT0.out
                refine wpAnyH_take (i := 0) (v := .pointer (some ⟨R, 0, none⟩)) (by rfl) (by kernel_rfl) (by kernel_rfl) (by kernel_rfl) (by exact fun _ _ _ h => h) (Or.inl ⟨by rfl, ?_⟩) hHeld ?_
                · intro w' hSw
                  obtain ⟨y1, y2, y3, y4⟩ := HTD.out.thr hSw
                  go_simp
                try simp only [Act.put, List.setIfInBounds_toArray, List.set_cons_zero, List.set_cons_succ, List.getElem_toArray, List.getElem_cons_zero, List.getElem_cons_succ]
                refine wpAnyH_take (i := 1) (v := .pointer (some ⟨R, 0, none⟩)) (by rfl) (by kernel_rfl) (by kernel_rfl) (by kernel_rfl) (by exact fun _ _ _ h => h) (Or.inl ⟨by rfl, ?_⟩) hHeld ?_
                · intro w' hSw
                  obtain ⟨y1, y2, y3, y4⟩ := HTD.out.thr hSw
                  go_simp
                try simp only [Act.put, List.setIfInBounds_toArray, List.set_cons_zero, List.set_cons_succ, List.getElem_toArray, List.getElem_cons_zero, List.getElem_cons_succ]
                refine wpAnyH_take (i := 2) (v := ?_) (by rfl) (by kernel_rfl) (by kernel_rfl) (by kernel_rfl) (by exact fun _ _ _ h => h) (Or.inl ⟨by rfl, ?_⟩) hHeld ?_
                rotate_left 1
                · intro w' hSw
                  (try dsimp only at hSw)
                  go_simp
                  try with_reducible rfl
                try simp only [Act.put, List.setIfInBounds_toArray, List.set_cons_zero, List.set_cons_succ, List.getElem_toArray, List.getElem_cons_zero, List.getElem_cons_succ]
                refine wpAnyH_take (i := 3) (v := ?_) (by rfl) (by kernel_rfl) (by kernel_rfl) (by kernel_rfl) (by exact fun _ _ _ h => h) (Or.inl ⟨by rfl, ?_⟩) hHeld ?_
                rotate_left 1
                · intro w' hSw
                  (try dsimp only at hSw)
                  go_simp
                  try with_reducible rfl
                try simp only [Act.put, List.setIfInBounds_toArray, List.set_cons_zero, List.set_cons_succ, List.getElem_toArray, List.getElem_cons_zero, List.getElem_cons_succ]
                refine wpAnyH_take (i := 5) (v := .pointer (some ⟨R, 0, none⟩)) (by rfl) (by kernel_rfl) (by kernel_rfl) (by kernel_rfl) (by exact fun _ _ _ h => h) (Or.inl ⟨by rfl, ?_⟩) hHeld ?_
                · intro w' hSw
                  obtain ⟨y1, y2, y3, y4⟩ := HTD.out.thr hSw
                  go_simp
                try simp only [Act.put, List.setIfInBounds_toArray, List.set_cons_zero, List.set_cons_succ, List.getElem_toArray, List.getElem_cons_zero, List.getElem_cons_succ]
                refine wpAnyH_take (i := 6) (v := ?_) (by rfl) (by kernel_rfl) (by kernel_rfl) (by kernel_rfl) (by exact fun _ _ _ h => h) (Or.inl ⟨by rfl, ?_⟩) hHeld ?_
                rotate_left 1
                · intro w' hSw
                  (try dsimp only at hSw)
                  go_simp
                  try with_reducible rfl
                try simp only [Act.put, List.setIfInBounds_toArray, List.set_cons_zero, List.set_cons_succ, List.getElem_toArray, List.getElem_cons_zero, List.getElem_cons_succ]
                refine wpAnyH_take (i := 7) (v := .slice ka n.kids.length kc) (by rfl) (by kernel_rfl) (by kernel_rfl) (by kernel_rfl) (by exact fun _ _ _ h => h) (Or.inl ⟨by rfl, ?_⟩) hHeld ?_
                · intro w' hSw
                  obtain ⟨y1, y2, y3, y4⟩ := HTD.out.thr hSw
                  go_simp
                try simp only [Act.put, List.setIfInBounds_toArray, List.set_cons_zero, List.set_cons_succ, List.getElem_toArray, List.getElem_cons_zero, List.getElem_cons_succ]
                refine wpAnyH_take (i := 8) (v := ?_) (by rfl) (by kernel_rfl) (by kernel_rfl) (by kernel_rfl) (by exact fun _ _ _ h => h) (Or.inl ⟨by rfl, ?_⟩) hHeld ?_
                rotate_left 1
                · intro w' hSw
                  (try dsimp only at hSw)
                  go_simp
                  try with_reducible rfl
                try simp only [Act.put, List.setIfInBounds_toArray, List.set_cons_zero, List.set_cons_succ, List.getElem_toArray, List.getElem_cons_zero, List.getElem_cons_succ]
                refine wpAnyH_take (i := 9) (v := .int .i64 o.sort) (by rfl) (by kernel_rfl) (by kernel_rfl) (by kernel_rfl) (by exact fun _ _ _ h => h) (Or.inl ⟨by rfl, ?_⟩) hHeld ?_
                · intro w' hSw
                  obtain ⟨y1, y2, y3, y4⟩ := HTD.out.thr hSw
                  go_simp
                try simp only [Act.put, List.setIfInBounds_toArray, List.set_cons_zero, List.set_cons_succ, List.getElem_toArray, List.getElem_cons_zero, List.getElem_cons_succ]
                refine wpAnyH_take (i := 11) (v := .pointer (some ⟨R, 0, none⟩)) (by rfl) (by kernel_rfl) (by kernel_rfl) (by kernel_rfl) (by exact fun _ _ _ h => h) (Or.inl ⟨by rfl, ?_⟩) hHeld ?_
                · intro w' hSw
                  obtain ⟨y1, y2, y3, y4⟩ := HTD.out.thr hSw
                  go_simp
                try simp only [Act.put, List.setIfInBounds_toArray, List.set_cons_zero, List.set_cons_succ, List.getElem_toArray, List.getElem_cons_zero, List.getElem_cons_succ]
                refine wpAnyH_take (i := 12) (v := .agg #[.int .i64 n.op, .int .i64 n.v, .slice ka n.kids.length kc, .bool s, .slice a1 l1 c1, .slice a2 l2 c2]) (by rfl) (by kernel_rfl) (by kernel_rfl) (by kernel_rfl) (by exact fun _ _ _ h => h) (Or.inl ⟨by rfl, ?_⟩) hHeld ?_
                · intro w' hSw
                  exact run_load_op 33 (.tmp 3) rfl (w.heap.size + 1) 0 rfl [.int .i64 n.op, .int .i64 n.v, .slice ka n.kids.length kc, .bool s, .slice a1 l1 c1, .slice a2 l2 c2] _ (HTD.out.thr hSw).2.2.2 Tryz.underlying33 rfl (by rw [size_node]; rfl)
                try simp only [Act.put, List.setIfInBounds_toArray, List.set_cons_zero, List.set_cons_succ, List.getElem_toArray, List.getElem_cons_zero, List.getElem_cons_succ]
                refine wpAnyH_ready (rs := [4, 10]) (by kernel_rfl) (by simp) ?_
                refine AllReadyH.cons (by rfl) (fun K hK => ?_) ?_
                · refine step_val _ (load_kv (.tmp 62) rfl rfl HKD.out) rfl ?_
                  refine hK.out _ _ ?_ (fun hHeld => ?_)
                  · exact hHeld
                  clear hK K
                  try simp only [Act.put, List.setIfInBounds_toArray, List.set_cons_zero, List.set_cons_succ, List.getElem_toArray, List.getElem_cons_zero, List.getElem_cons_succ]
                  refine wpAnyH_ready (rs := [10]) (by kernel_rfl) (by simp) ?_
                  refine AllReadyH.cons (by rfl) (fun K hK => ?_) AllReadyH.nil
                  go_simp
                  refine (C6.out (by first | rfl | trivial) _ HBD.out).mono ?_
                  rintro e W11 ⟨rfl, hb⟩
                  have HB11 := Lib.hid (HBD.out.trans (hb.mono HBD.out.size))
                  have HT11 := Lib.hid (HT0.out.kept hb HTD.out.lt)
                  have HTK11 := Lib.hid (HTD.out.kept hb)
                  have HKV11 : Hid (W11.cell? ⟨R, 2, none⟩ = some kv) := Lib.hid ((hb.cell (p := ⟨R, 2, none⟩) (World.block_lt_of_cell? _ _ HKD.out)).trans HKD.out)
                  clear hb
                  refine hK.out _ _ ?_ (fun hHeld => ?_)
                  · exact HT11.out
                  clear hK K
                  try simp only [Act.put, List.setIfInBounds_toArray, List.set_cons_zero, List.set_cons_succ, List.getElem_toArray, List.getElem_cons_zero, List.getElem_cons_succ]
                  refine wpAnyH_ready (rs := [13]) (by kernel_rfl) (by simp) ?_
                  refine AllReadyH.cons (by rfl) (fun K hK => ?_) AllReadyH.nil
                  go_simp
                  refine (C7.out _ HB11.out).mono ?_
                  rintro e W12 ⟨rfl, hb⟩
                  have HB12 := Lib.hid (HB11.out.trans (hb.mono HB11.out.size))
                  have HT12 := Lib.hid (HT11.out.kept hb HTK11.out.lt)
                  have HTK12 := Lib.hid (HTK11.out.kept hb)
                  have HKV12 : Hid (W12.cell? ⟨R, 2, none⟩ = some kv) := Lib.hid ((hb.cell (p := ⟨R, 2, none⟩) (World.block_lt_of_cell? _ _ HKV11.out)).trans HKV11.out)
                  clear hb
                  refine hK.out _ _ ?_ (fun hHeld => ?_)
                  · exact HT12.out
                  clear hK K
                  try simp only [Act.put, List.setIfInBounds_toArray, List.set_cons_zero, List.set_cons_succ, List.getElem_toArray, List.getElem_cons_zero, List.getElem_cons_succ]
                  refine wpAnyH_take (i := 14) (v := ?_) (by rfl) (by kernel_rfl) (by kernel_rfl) (by kernel_rfl) (by exact fun _ _ _ h => h) (Or.inl ⟨by rfl, ?_⟩) hHeld ?_
                  rotate_left 1
                  · intro w' hSw
                    (try dsimp only at hSw)
                    go_simp
                    try with_reducible rfl
                  try simp only [Act.put, List.setIfInBounds_toArray, List.set_cons_zero, List.set_cons_succ, List.getElem_toArray, List.getElem_cons_zero, List.getElem_cons_succ]
                  refine wpAnyH_ready (rs := [15]) (by kernel_rfl) (by simp) ?_
                  refine AllReadyH.cons (by rfl) (fun K hK => ?_) AllReadyH.nil
                  go_simp
                  have al := (Below.refl W12.heap.size W12).alloc (Nat.le_refl _) (.cells #[.int .i64 so, .bool gd] 90)
                  have HALL := Lib.hid al
                  have HT13 := Lib.hid (HT12.out.kept al HTK12.out.lt)
                  have HRU13 := Lib.hid ((HRU.out.kept HB12.out).kept al)
                  have HKV13 : Hid ((W12.alloc (.cells #[.int .i64 so, .bool gd] 90)).cell? ⟨R, 2, none⟩ = some kv) := Lib.hid ((al.cell (p := ⟨R, 2, none⟩) (World.block_lt_of_cell? _ _ HKV12.out)).trans HKV12.out)
                  clear al
                  refine hK.out _ _ ?_ (fun hHeld => ?_)
                  · exact HT13.out
                  clear hK K
                  try simp only [Act.put, List.setIfInBounds_toArray, List.set_cons_zero, List.set_cons_succ, List.getElem_toArray, List.getElem_cons_zero, List.getElem_cons_succ]
                  refine wpAnyH_ready (rs := [16]) (by kernel_rfl) (by simp) ?_
                  refine AllReadyH.cons (by rfl) (fun K hK => ?_) AllReadyH.nil
                  refine step_app_row rowT_kind rfl (.tmp 63) (.tmp 74) rfl B kv g.ks.length (kindC g.ks) rfl HRU13.out.row ⟨W12.heap.size, 0, none⟩ 1 1 (k2 (so, gd)) rfl rfl (kd_new W12 (so, gd)) (kd_one _) (by rw [HLEN.out]; exact HFEW.out) (Nat.le_trans HH.out.2.1 (Nat.le_trans (HTK12.out.below.size) HALL.out.size)) ?_
                  intro kv' W14 hown hgr hnew
                  obtain ⟨va, vc, rfl, _, _⟩ := own_value hown
                  have HF := Lib.hid (take_fin HRU13.out hown hgr hnew)
                  have HNEW := Lib.hid hnew
                  have gc := HF.out.1.1
                  have gf := HF.out.1.2
                  have HT14 : Hid (Thr w.heap.size W10.drew W14) := Lib.hid (fun j h1 h2 => (hgr.block j (by have := HTK12.out.lt; have := HALL.out.size; omega) (fun e => by
                    obtain ⟨_, cur, hc⟩ := own_tag HH.out.1.row e.symm
                    have := (Array.getElem?_eq_some_iff.1 hc).1
                    omega)).trans (HT13.out j h1 h2))
                  clear hown hgr hnew
                  refine hK.out _ _ ?_ (fun hHeld => ?_)
                  · exact HT14.out
                  clear hK K
                  try simp only [Act.put, List.setIfInBounds_toArray, List.set_cons_zero, List.set_cons_succ, List.getElem_toArray, List.getElem_cons_zero, List.getElem_cons_succ]
                  refine wpAnyH_take (i := 17) (v := ?_) (by rfl) (by kernel_rfl) (by kernel_rfl) (by kernel_rfl) (by exact fun _ _ _ h => h) (Or.inl ⟨by rfl, ?_⟩) hHeld ?_
                  rotate_left 1
                  · intro w' hSw
                    (try dsimp only at hSw)
                    go_simp
                    try with_reducible rfl
                  try simp only [Act.put, List.setIfInBounds_toArray, List.set_cons_zero, List.set_cons_succ, List.getElem_toArray, List.getElem_cons_zero, List.getElem_cons_succ]
                  refine wpAnyH_take (i := 18) (v := ?_) (by rfl) (by kernel_rfl) (by kernel_rfl) (by kernel_rfl) (by exact fun _ _ _ h => h) (Or.inl ⟨by rfl, ?_⟩) hHeld ?_
                  rotate_left 1
                  · intro w' hSw
                    (try dsimp only at hSw)
                    go_simp
                    try with_reducible rfl
                  try simp only [Act.put, List.setIfInBounds_toArray, List.set_cons_zero, List.set_cons_succ, List.getElem_toArray, List.getElem_cons_zero, List.getElem_cons_succ]
                  refine wpAnyH_ready (rs := [19]) (by kernel_rfl) (by simp) ?_
                  refine AllReadyH.cons (by rfl) (fun K hK => ?_) AllReadyH.nil
                  go_simp
                  refine hK.out _ _ ?_ (fun hHeld => ?_)
                  · exact fun j h1 h2 => (heap_setCell_other _ _ _ _ (fun e => by have := HH.out.1.sizes.1; simp at e; omega)).trans (HT14.out j h1 h2)
                  clear hK K
                  try simp only [Act.put, List.setIfInBounds_toArray, List.set_cons_zero, List.set_cons_succ, List.getElem_toArray, List.getElem_cons_zero, List.getElem_cons_succ]
                  refine wpAnyH_done (by kernel_rfl) ?_ _
                  clear hHeld
                  go_wp2_with fail
                  go_ret
                  exact TookIs.yes HH.out.1 HC0.out (HNX.out HC0.out) (HTK12.out.below.trans (HALL.out.mono HTK12.out.below.size)) HF.out.2.1 HF.out.2.2 HNEW.out
                refine AllReadyH.cons (by rfl) (fun K hK => ?_) ?_
                · go_simp
                  refine (C6.out (by first | rfl | trivial) _ HBD.out).mono ?_
                  rintro e W11 ⟨rfl, hb⟩
                  have HB11 := Lib.hid (HBD.out.trans (hb.mono HBD.out.size))
                  have HT11 := Lib.hid (HT0.out.kept hb HTD.out.lt)
                  have HTK11 := Lib.hid (HTD.out.kept hb)
                  have HKV11 : Hid (W11.cell? ⟨R, 2, none⟩ = some kv) := Lib.hid ((hb.cell (p := ⟨R, 2, none⟩) (World.block_lt_of_cell? _ _ HKD.out)).trans HKD.out)
                  clear hb
                  refine hK.out _ _ ?_ (fun hHeld => ?_)
                  · exact HT11.out
                  clear hK K
                  try simp only [Act.put, List.setIfInBounds_toArray, List.set_cons_zero, List.set_cons_succ, List.getElem_toArray, List.getElem_cons_zero, List.getElem_cons_succ]
                  refine wpAnyH_ready (rs := [4, 13]) (by kernel_rfl) (by simp) ?_
                  refine AllReadyH.cons (by rfl) (fun K hK => ?_) ?_
                  · refine step_val _ (load_kv (.tmp 62) rfl rfl HKV11.out) rfl ?_
                    refine hK.out _ _ ?_ (fun hHeld => ?_)
                    · exact hHeld
                    clear hK K
                    try simp only [Act.put, List.setIfInBounds_toArray, List.set_cons_zero, List.set_cons_succ, List.getElem_toArray, List.getElem_cons_zero, List.getElem_cons_succ]
                    refine wpAnyH_ready (rs := [13]) (by kernel_rfl) (by simp) ?_
                    refine AllReadyH.cons (by rfl) (fun K hK => ?_) AllReadyH.nil
                    go_simp
                    refine (C7.out _ HB11.out).mono ?_
                    rintro e W12 ⟨rfl, hb⟩
                    have HB12 := Lib.hid (HB11.out.trans (hb.mono HB11.out.size))
                    have HT12 := Lib.hid (HT11.out.kept hb HTK11.out.lt)
                    have HTK12 := Lib.hid (HTK11.out.kept hb)
                    have HKV12 : Hid (W12.cell? ⟨R, 2, none⟩ = some kv) := Lib.hid ((hb.cell (p := ⟨R, 2, none⟩) (World.block_lt_of_cell? _ _ HKV11.out)).trans HKV11.out)
                    clear hb
                    refine hK.out _ _ ?_ (fun hHeld => ?_)
                    · exact HT12.out
                    clear hK K
                    try simp only [Act.put, List.setIfInBounds_toArray, List.set_cons_zero, List.set_cons_succ, List.getElem_toArray, List.getElem_cons_zero, List.getElem_cons_succ]
                    refine wpAnyH_take (i := 14) (v := ?_) (by rfl) (by kernel_rfl) (by kernel_rfl) (by kernel_rfl) (by exact fun _ _ _ h => h) (Or.inl ⟨by rfl, ?_⟩) hHeld ?_
                    rotate_left 1
                    · intro w' hSw
                      (try dsimp only at hSw)
                      go_simp
                      try with_reducible rfl
                    try simp only [Act.put, List.setIfInBounds_toArray, List.set_cons_zero, List.set_cons_succ, List.getElem_toArray, List.getElem_cons_zero, List.getElem_cons_succ]
                    refine wpAnyH_ready (rs := [15]) (by kernel_rfl) (by simp) ?_
                    refine AllReadyH.cons (by rfl) (fun K hK => ?_) AllReadyH.nil
                    go_simp
                    have al := (Below.refl W12.heap.size W12).alloc (Nat.le_refl _) (.cells #[.int .i64 so, .bool gd] 90)
                    have HALL := Lib.hid al
                    have HT13 := Lib.hid (HT12.out.kept al HTK12.out.lt)
                    have HRU13 := Lib.hid ((HRU.out.kept HB12.out).kept al)
                    have HKV13 : Hid ((W12.alloc (.cells #[.int .i64 so, .bool gd] 90)).cell? ⟨R, 2, none⟩ = some kv) := Lib.hid ((al.cell (p := ⟨R, 2, none⟩) (World.block_lt_of_cell? _ _ HKV12.out)).trans HKV12.out)
                    clear al
                    refine hK.out _ _ ?_ (fun hHeld => ?_)
                    · exact HT13.out
                    clear hK K
                    try simp only [Act.put, List.setIfInBounds_toArray, List.set_cons_zero, List.set_cons_succ, List.getElem_toArray, List.getElem_cons_zero, List.getElem_cons_succ]
                    refine wpAnyH_ready (rs := [16]) (by kernel_rfl) (by simp) ?_
                    refine AllReadyH.cons (by rfl) (fun K hK => ?_) AllReadyH.nil
                    refine step_app_row rowT_kind rfl (.tmp 63) (.tmp 74) rfl B kv g.ks.length (kindC g.ks) rfl HRU13.out.row ⟨W12.heap.size, 0, none⟩ 1 1 (k2 (so, gd)) rfl rfl (kd_new W12 (so, gd)) (kd_one _) (by rw [HLEN.out]; exact HFEW.out) (Nat.le_trans HH.out.2.1 (Nat.le_trans (HTK12.out.below.size) HALL.out.size)) ?_
                    intro kv' W14 hown hgr hnew
                    obtain ⟨va, vc, rfl, _, _⟩ := own_value hown
                    have HF := Lib.hid (take_fin HRU13.out hown hgr hnew)
                    have HNEW := Lib.hid hnew
                    have gc := HF.out.1.1
                    have gf := HF.out.1.2
                    have HT14 : Hid (Thr w.heap.size W10.drew W14) := Lib.hid (fun j h1 h2 => (hgr.block j (by have := HTK12.out.lt; have := HALL.out.size; omega) (fun e => by
                      obtain ⟨_, cur, hc⟩ := own_tag HH.out.1.row e.symm
                      have := (Array.getElem?_eq_some_iff.1 hc).1
                      omega)).trans (HT13.out j h1 h2))
                    clear hown hgr hnew
                    refine hK.out _ _ ?_ (fun hHeld => ?_)
                    · exact HT14.out
                    clear hK K
                    try simp only [Act.put, List.setIfInBounds_toArray, List.set_cons_zero, List.set_cons_succ, List.getElem_toArray, List.getElem_cons_zero, List.getElem_cons_succ]
                    refine wpAnyH_take (i := 17) (v := ?_) (by rfl) (by kernel_rfl) (by kernel_rfl) (by kernel_rfl) (by exact fun _ _ _ h => h) (Or.inl ⟨by rfl, ?_⟩) hHeld ?_
                    rotate_left 1
                    · intro w' hSw
                      (try dsimp only at hSw)
                      go_simp
                      try with_reducible rfl
                    try simp only [Act.put, List.setIfInBounds_toArray, List.set_cons_zero, List.set_cons_succ, List.getElem_toArray, List.getElem_cons_zero, List.getElem_cons_succ]
                    refine wpAnyH_take (i := 18) (v := ?_) (by rfl) (by kernel_rfl) (by kernel_rfl) (by kernel_rfl) (by exact fun _ _ _ h => h) (Or.inl ⟨by rfl, ?_⟩) hHeld ?_
                    rotate_left 1
                    · intro w' hSw
                      (try dsimp only at hSw)
                      go_simp
                      try with_reducible rfl
                    try simp only [Act.put, List.setIfInBounds_toArray, List.set_cons_zero, List.set_cons_succ, List.getElem_toArray, List.getElem_cons_zero, List.getElem_cons_succ]
                    refine wpAnyH_ready (rs := [19]) (by kernel_rfl) (by simp) ?_
                    refine AllReadyH.cons (by rfl) (fun K hK => ?_) AllReadyH.nil
                    go_simp
                    refine hK.out _ _ ?_ (fun hHeld => ?_)
                    · exact fun j h1 h2 => (heap_setCell_other _ _ _ _ (fun e => by have := HH.out.1.sizes.1; simp at e; omega)).trans (HT14.out j h1 h2)
                    clear hK K
                    try simp only [Act.put, List.setIfInBounds_toArray, List.set_cons_zero, List.set_cons_succ, List.getElem_toArray, List.getElem_cons_zero, List.getElem_cons_succ]
                    refine wpAnyH_done (by kernel_rfl) ?_ _
                    clear hHeld
                    go_wp2_with fail
                    go_ret
                    exact TookIs.yes HH.out.1 HC0.out (HNX.out HC0.out) (HTK12.out.below.trans (HALL.out.mono HTK12.out.below.size)) HF.out.2.1 HF.out.2.2 HNEW.out
                  refine AllReadyH.cons (by rfl) (fun K hK => ?_) ?_
                  · go_simp
                    refine (C7.out _ HB11.out).mono ?_
                    rintro e W12 ⟨rfl, hb⟩
                    have HB12 := Lib.hid (HB11.out.trans (hb.mono HB11.out.size))
                    have HT12 := Lib.hid (HT11.out.kept hb HTK11.out.lt)
                    have HTK12 := Lib.hid (HTK11.out.kept hb)
                    have HKV12 : Hid (W12.cell? ⟨R, 2, none⟩ = some kv) := Lib.hid ((hb.cell (p := ⟨R, 2, none⟩) (World.block_lt_of_cell? _ _ HKV11.out)).trans HKV11.out)
                    clear hb
                    refine hK.out _ _ ?_ (fun hHeld => ?_)
                    · exact HT12.out
                    clear hK K
                    try simp only [Act.put, List.setIfInBounds_toArray, List.set_cons_zero, List.set_cons_succ, List.getElem_toArray, List.getElem_cons_zero, List.getElem_cons_succ]
                    refine wpAnyH_take (i := 14) (v := ?_) (by rfl) (by kernel_rfl) (by kernel_rfl) (by kernel_rfl) (by exact fun _ _ _ h => h) (Or.inl ⟨by rfl, ?_⟩) hHeld ?_
                    rotate_left 1
                    · intro w' hSw
                      (try dsimp only at hSw)
                      go_simp
                      try with_reducible rfl
                    try simp only [Act.put, List.setIfInBounds_toArray, List.set_cons_zero, List.set_cons_succ, List.getElem_toArray, List.getElem_cons_zero, List.getElem_cons_succ]
                    refine wpAnyH_ready (rs := [4, 15]) (by kernel_rfl) (by simp) ?_
                    refine AllReadyH.cons (by rfl) (fun K hK => ?_) ?_
                    · refine step_val _ (load_kv (.tmp 62) rfl rfl HKV12.out) rfl ?_
                      refine hK.out _ _ ?_ (fun hHeld => ?_)
                      · exact hHeld
                      clear hK K
                      try simp only [Act.put, List.setIfInBounds_toArray, List.set_cons_zero, List.set_cons_succ, List.getElem_toArray, List.getElem_cons_zero, List.getElem_cons_succ]
                      refine wpAnyH_ready (rs := [15]) (by kernel_rfl) (by simp) ?_
                      refine AllReadyH.cons (by rfl) (fun K hK => ?_) AllReadyH.nil
                      go_simp
                      have al := (Below.refl W12.heap.size W12).alloc (Nat.le_refl _) (.cells #[.int .i64 so, .bool gd] 90)
                      have HALL := Lib.hid al
                      have HT13 := Lib.hid (HT12.out.kept al HTK12.out.lt)
                      have HRU13 := Lib.hid ((HRU.out.kept HB12.out).kept al)
                      have HKV13 : Hid ((W12.alloc (.cells #[.int .i64 so, .bool gd] 90)).cell? ⟨R, 2, none⟩ = some kv) := Lib.hid ((al.cell (p := ⟨R, 2, none⟩) (World.block_lt_of_cell? _ _ HKV12.out)).trans HKV12.out)
                      clear al
                      refine hK.out _ _ ?_ (fun hHeld => ?_)
                      · exact HT13.out
                      clear hK K
                      try simp only [Act.put, List.setIfInBounds_toArray, List.set_cons_zero, List.set_cons_succ, List.getElem_toArray, List.getElem_cons_zero, List.getElem_cons_succ]
                      refine wpAnyH_ready (rs := [16]) (by kernel_rfl) (by simp) ?_
                      refine AllReadyH.cons (by rfl) (fun K hK => ?_) AllReadyH.nil
                      refine step_app_row rowT_kind rfl (.tmp 63) (.tmp 74) rfl B kv g.ks.length (kindC g.ks) rfl HRU13.out.row ⟨W12.heap.size, 0, none⟩ 1 1 (k2 (so, gd)) rfl rfl (kd_new W12 (so, gd)) (kd_one _) (by rw [HLEN.out]; exact HFEW.out) (Nat.le_trans HH.out.2.1 (Nat.le_trans (HTK12.out.below.size) HALL.out.size)) ?_
                      intro kv' W14 hown hgr hnew
                      obtain ⟨va, vc, rfl, _, _⟩ := own_value hown
                      have HF := Lib.hid (take_fin HRU13.out hown hgr hnew)
                      have HNEW := Lib.hid hnew
                      have gc := HF.out.1.1
                      have gf := HF.out.1.2
                      have HT14 : Hid (Thr w.heap.size W10.drew W14) := Lib.hid (fun j h1 h2 => (hgr.block j (by have := HTK12.out.lt; have := HALL.out.size; omega) (fun e => by
                        obtain ⟨_, cur, hc⟩ := own_tag HH.out.1.row e.symm
                        have := (Array.getElem?_eq_some_iff.1 hc).1
                        omega)).trans (HT13.out j h1 h2))
                      clear hown hgr hnew
                      refine hK.out _ _ ?_ (fun hHeld => ?_)
                      · exact HT14.out
                      clear hK K
                      try simp only [Act.put, List.setIfInBounds_toArray, List.set_cons_zero, List.set_cons_succ, List.getElem_toArray, List.getElem_cons_zero, List.getElem_cons_succ]
                      refine wpAnyH_take (i := 17) (v := ?_) (by rfl) (by kernel_rfl) (by kernel_rfl) (by kernel_rfl) (by exact fun _ _ _ h => h) (Or.inl ⟨by rfl, ?_⟩) hHeld ?_
                      rotate_left 1
                      · intro w' hSw
                        (try dsimp only at hSw)
                        go_simp
                        try with_reducible rfl
                      try simp only [Act.put, List.setIfInBounds_toArray, List.set_cons_zero, List.set_cons_succ, List.getElem_toArray, List.getElem_cons_zero, List.getElem_cons_succ]
                      refine wpAnyH_take (i := 18) (v := ?_) (by rfl) (by kernel_rfl) (by kernel_rfl) (by kernel_rfl) (by exact fun _ _ _ h => h) (Or.inl ⟨by rfl, ?_⟩) hHeld ?_
                      rotate_left 1
                      · intro w' hSw
                        (try dsimp only at hSw)
                        go_simp
                        try with_reducible rfl
                      try simp only [Act.put, List.setIfInBounds_toArray, List.set_cons_zero, List.set_cons_succ, List.getElem_toArray, List.getElem_cons_zero, List.getElem_cons_succ]
                      refine wpAnyH_ready (rs := [19]) (by kernel_rfl) (by simp) ?_
                      refine AllReadyH.cons (by rfl) (fun K hK => ?_) AllReadyH.nil
                      go_simp
                      refine hK.out _ _ ?_ (fun hHeld => ?_)
                      · exact fun j h1 h2 => (heap_setCell_other _ _ _ _ (fun e => by have := HH.out.1.sizes.1; simp at e; omega)).trans (HT14.out j h1 h2)
                      clear hK K
                      try simp only [Act.put, List.setIfInBounds_toArray, List.set_cons_zero, List.set_cons_succ, List.getElem_toArray, List.getElem_cons_zero, List.getElem_cons_succ]
                      refine wpAnyH_done (by kernel_rfl) ?_ _
                      clear hHeld
                      go_wp2_with fail
                      go_ret
                      exact TookIs.yes HH.out.1 HC0.out (HNX.out HC0.out) (HTK12.out.below.trans (HALL.out.mono HTK12.out.below.size)) HF.out.2.1 HF.out.2.2 HNEW.out
                    refine AllReadyH.cons (by rfl) (fun K hK => ?_) ?_
                    · go_simp
                      have al := (Below.refl W12.heap.size W12).alloc (Nat.le_refl _) (.cells #[.int .i64 so, .bool gd] 90)
                      have HALL := Lib.hid al
                      have HT13 := Lib.hid (HT12.out.kept al HTK12.out.lt)
                      have HRU13 := Lib.hid ((HRU.out.kept HB12.out).kept al)
                      have HKV13 : Hid ((W12.alloc (.cells #[.int .i64 so, .bool gd] 90)).cell? ⟨R, 2, none⟩ = some kv) := Lib.hid ((al.cell (p := ⟨R, 2, none⟩) (World.block_lt_of_cell? _ _ HKV12.out)).trans HKV12.out)
                      clear al
                      refine hK.out _ _ ?_ (fun hHeld => ?_)
                      · exact HT13.out
                      clear hK K
                      try simp only [Act.put, List.setIfInBounds_toArray, List.set_cons_zero, List.set_cons_succ, List.getElem_toArray, List.getElem_cons_zero, List.getElem_cons_succ]
                      refine wpAnyH_ready (rs := [4]) (by kernel_rfl) (by simp) ?_
                      refine AllReadyH.cons (by rfl) (fun K hK => ?_) AllReadyH.nil
                      refine step_val _ (load_kv (.tmp 62) rfl rfl HKV13.out) rfl ?_
                      refine hK.out _ _ ?_ (fun hHeld => ?_)
                      · exact hHeld
                      clear hK K
                      try simp only [Act.put, List.setIfInBounds_toArray, List.set_cons_zero, List.set_cons_succ, List.getElem_toArray, List.getElem_cons_zero, List.getElem_cons_succ]
                      refine wpAnyH_ready (rs := [16]) (by kernel_rfl) (by simp) ?_
                      refine AllReadyH.cons (by rfl) (fun K hK => ?_) AllReadyH.nil
                      refine step_app_row rowT_kind rfl (.tmp 63) (.tmp 74) rfl B kv g.ks.length (kindC g.ks) rfl HRU13.out.row ⟨W12.heap.size, 0, none⟩ 1 1 (k2 (so, gd)) rfl rfl (kd_new W12 (so, gd)) (kd_one _) (by rw [HLEN.out]; exact HFEW.out) (Nat.le_trans HH.out.2.1 (Nat.le_trans (HTK12.out.below.size) HALL.out.size)) ?_
                      intro kv' W14 hown hgr hnew
                      obtain ⟨va, vc, rfl, _, _⟩ := own_value hown
                      have HF := Lib.hid (take_fin HRU13.out hown hgr hnew)
                      have HNEW := Lib.hid hnew
                      have gc := HF.out.1.1
                      have gf := HF.out.1.2
                      have HT14 : Hid (Thr w.heap.size W10.drew W14) := Lib.hid (fun j h1 h2 => (hgr.block j (by have := HTK12.out.lt; have := HALL.out.size; omega) (fun e => by
                        obtain ⟨_, cur, hc⟩ := own_tag HH.out.1.row e.symm
                        have := (Array.getElem?_eq_some_iff.1 hc).1
                        omega)).trans (HT13.out j h1 h2))
                      clear hown hgr hnew
                      refine hK.out _ _ ?_ (fun hHeld => ?_)
                      · exact HT14.out
                      clear hK K
                      try simp only [Act.put, List.setIfInBounds_toArray, List.set_cons_zero, List.set_cons_succ, List.getElem_toArray, List.getElem_cons_zero, List.getElem_cons_succ]
                      refine wpAnyH_take (i := 17) (v := ?_) (by rfl) (by kernel_rfl) (by kernel_rfl) (by kernel_rfl) (by exact fun _ _ _ h => h) (Or.inl ⟨by rfl, ?_⟩) hHeld ?_
                      rotate_left 1
                      · intro w' hSw
                        (try dsimp only at hSw)
                        go_simp
                        try with_reducible rfl
                      try simp only [Act.put, List.setIfInBounds_toArray, List.set_cons_zero, List.set_cons_succ, List.getElem_toArray, List.getElem_cons_zero, List.getElem_cons_succ]
                      refine wpAnyH_take (i := 18) (v := ?_) (by rfl) (by kernel_rfl) (by kernel_rfl) (by kernel_rfl) (by exact fun _ _ _ h => h) (Or.inl ⟨by rfl, ?_⟩) hHeld ?_
                      rotate_left 1
                      · intro w' hSw
                        (try dsimp only at hSw)
                        go_simp
                        try with_reducible rfl
                      try simp only [Act.put, List.setIfInBounds_toArray, List.set_cons_zero, List.set_cons_succ, List.getElem_toArray, List.getElem_cons_zero, List.getElem_cons_succ]
                      refine wpAnyH_ready (rs := [19]) (by kernel_rfl) (by simp) ?_
                      refine AllReadyH.cons (by rfl) (fun K hK => ?_) AllReadyH.nil
                      go_simp
                      refine hK.out _ _ ?_ (fun hHeld => ?_)
                      · exact fun j h1 h2 => (heap_setCell_other _ _ _ _ (fun e => by have := HH.out.1.sizes.1; simp at e; omega)).trans (HT14.out j h1 h2)
                      clear hK K
                      try simp only [Act.put, List.setIfInBounds_toArray, List.set_cons_zero, List.set_cons_succ, List.getElem_toArray, List.getElem_cons_zero, List.getElem_cons_succ]
                      refine wpAnyH_done (by kernel_rfl) ?_ _
                      clear hHeld
                      go_wp2_with fail
                      go_ret
                      exact TookIs.yes HH.out.1 HC0.out (HNX.out HC0.out) (HTK12.out.below.trans (HALL.out.mono HTK12.out.below.size)) HF.out.2.1 HF.out.2.2 HNEW.out
                    exact AllReadyH.nil
                  exact AllReadyH.nil
                exact AllReadyH.nil
end
end Go.Proofs.YthnklohpmcebkaaGreatDoor

set_option linter.unusedVariables false
set_option linter.unusedSimpArgs false
namespace Go.Proofs.YthnklohpmcebkaaGreatDoor
open Go.RowKit Tm
theorem rowT_int : RowT 31 3 1 8 := rowT_of (z := .int .i64 0) Tryz.underlying31 (by kernel_rfl) rfl (by omega) (by omega)
theorem rowT_nat : RowT 23 53 1 4 := rowT_of (z := .int .u32 0) Tryz.underlying23 (by kernel_rfl) rfl (by omega) (by omega)
def GivesSl (w : World) (e : Ending) (w' : World) : Prop := ∃ a n c, e = .returned (.slice a n c) ∧ Below w.heap.size w w'
section
variable {ops : Array Oper} {o : Oper} {a : Act} {w : World} {Q : Exit → Act → World → Prop} {t e : TypeId} {size bytes : Nat} {rest : List Oper}
theorem wpList_app_row (hT : RowT t e size bytes) (hgd : o.guard = none) (s x : Operand) (ho : o.op = .call { callee := .builtin .append, args := #[s, x], argTypes := #[t, t] }) (B : Nat) (v : Value) (n : Nat) (xs : List Value) (hv : a.eval s = v) (hown : w.ownsRow B e size v n xs)
    (ad : Addr) (m c : Nat) (news : List Value) (hx : a.eval x = .slice (some ad) m c) (hl : news.length = m * size) (hnews : ∀ j u, news[j]? = some u → w.cell? (ad.add j) = some u) (h1 : ∀ u ∈ news, u.oneCell' = true) (hn : n + m ≤ 2000000) (hB : B ≤ w.heap.size)
    (h : ∀ v' w', w'.ownsRow B e size v' (n + m) (xs ++ news) → w.grownBy w' v.ownBlock → (∀ j, v'.ownBlock = some j → v.ownBlock = some j ∨ w.heap.size ≤ j) → wpList Tryz.prog ops Q rest (a.put o.dst v') w') : wpList Tryz.prog ops Q (o :: rest) a w :=
  wpList_plain hgd fun _ hK => wp_app_row hT s x ho B v n xs hv hown ad m c news hx hl hnews h1 hn hB fun v' w' k1 k2 k3 => hK _ _ (h v' w' k1 k2 k3)
end
theorem row_none (w : World) (e : TypeId) : (w.alloc (.cells #[] e)).ownsRow w.heap.size e 1 (.slice (some ⟨w.heap.size, 0, none⟩) 0 0) 0 [] :=
  ⟨rfl, .inr ⟨w.heap.size, 0, #[], rfl, Nat.le_refl _, heap_alloc_new w _, Nat.le_refl _, by unfold maxLen; omega, rfl, rfl⟩⟩
set_option maxRecDepth 100000 in
set_option maxHeartbeats 1000000 in
theorem clone_int {w : World} {a : Option Addr} {l c : Nat} (h : Cel w a l c) : Calls Tryz.prog 60 #[.slice a l c] w (GivesSl w) := by
  have hnil := fun (w : World) (a : Option Addr) (n c : Nat) => Lib.run_eql_slice_nil (P := Tryz.prog) w 31 3 a n c 0 0 Tryz.underlying31
  have hl6 : l ≤ 1000000 := h.few
  rcases a with _ | p
  · clear h
    go_enter Tryz.func60, Tryz.ntmps60
    go_wp2_with fail
    go_ret
    exact ⟨none, 0, 0, rfl, Below.refl _ _⟩
  · obtain ⟨C, hC, hcell, hone⟩ : ∃ C : List Value, C.length = l * 1 ∧ (∀ j u, C[j]? = some u → (w.alloc (.cells #[] 3)).cell? (p.add j) = some u) ∧ ∀ v ∈ C, v.oneCell' = true := by
      rcases h.at_ with e | ⟨g, off, C, e, hl, hr, h1⟩
      · exact ⟨[], by simp [e], by simp, by simp⟩
      · cases e
        refine ⟨C, by omega, fun j u hu => ?_, h1⟩
        rw [Addr.add_mid]
        exact (World.cell?_alloc_lt w _ ⟨g, off + j, none⟩ (World.block_lt_of_cell? _ _ (hr j u hu))).trans (hr j u hu)
    have HR := Lib.hid (row_none w 3)
    have HC := Lib.hid (And.intro hC (And.intro hcell hone))
    have hn2 : 0 + l ≤ 2000000 := by omega
    have HN := Lib.hid hn2
    clear h hC hcell hone hn2
    go_enter Tryz.func60, Tryz.ntmps60
    go_wp2_with (at_builtin; refine wpList_app_row rowT_int rfl (.tmp 5) (.tmp 6) rfl w.heap.size (.slice (some ⟨w.heap.size, 0, none⟩) 0 0) 0 [] rfl HR.out p l c _ rfl HC.out.1 HC.out.2.1 HC.out.2.2 HN.out (by simp) ?_; intro v' w' hown hgr hnew)
    obtain ⟨va, vc, rfl, _, _⟩ := own_value hown
    go_ret
    exact ⟨va, 0 + l, vc, rfl, ((Below.refl _ _).alloc (Nat.le_refl _) _).grown hgr (by simp) (fun k hk => by cases hk; exact Nat.le_refl _)⟩
set_option maxRecDepth 100000 in
set_option maxHeartbeats 1000000 in
theorem clone_nat {w : World} {a : Option Addr} {l c : Nat} (h : Cel w a l c) : Calls Tryz.prog 61 #[.slice a l c] w (GivesSl w) := by
  have hnil := fun (w : World) (a : Option Addr) (n c : Nat) => Lib.run_eql_slice_nil (P := Tryz.prog) w 23 53 a n c 0 0 Tryz.underlying23
  have hl6 : l ≤ 1000000 := h.few
  rcases a with _ | p
  · clear h
    go_enter Tryz.func61, Tryz.ntmps61
    go_wp2_with fail
    go_ret
    exact ⟨none, 0, 0, rfl, Below.refl _ _⟩
  · obtain ⟨C, hC, hcell, hone⟩ : ∃ C : List Value, C.length = l * 1 ∧ (∀ j u, C[j]? = some u → (w.alloc (.cells #[] 53)).cell? (p.add j) = some u) ∧ ∀ v ∈ C, v.oneCell' = true := by
      rcases h.at_ with e | ⟨g, off, C, e, hl, hr, h1⟩
      · exact ⟨[], by simp [e], by simp, by simp⟩
      · cases e
        refine ⟨C, by omega, fun j u hu => ?_, h1⟩
        rw [Addr.add_mid]
        exact (World.cell?_alloc_lt w _ ⟨g, off + j, none⟩ (World.block_lt_of_cell? _ _ (hr j u hu))).trans (hr j u hu)
    have HR := Lib.hid (row_none w 53)
    have HC := Lib.hid (And.intro hC (And.intro hcell hone))
    have hn2 : 0 + l ≤ 2000000 := by omega
    have HN := Lib.hid hn2
    clear h hC hcell hone hn2
    go_enter Tryz.func61, Tryz.ntmps61
    go_wp2_with (at_builtin; refine wpList_app_row rowT_nat rfl (.tmp 5) (.tmp 6) rfl w.heap.size (.slice (some ⟨w.heap.size, 0, none⟩) 0 0) 0 [] rfl HR.out p l c _ rfl HC.out.1 HC.out.2.1 HC.out.2.2 HN.out (by simp) ?_; intro v' w' hown hgr hnew)
    obtain ⟨va, vc, rfl, _, _⟩ := own_value hown
    go_ret
    exact ⟨va, 0 + l, vc, rfl, ((Below.refl _ _).alloc (Nat.le_refl _) _).grown hgr (by simp) (fun k hk => by cases hk; exact Nat.le_refl _)⟩
theorem below_put {B b o : Nat} {w W : World} {v : Value} (h : Below B w W) (hb : B ≤ b) (hB : B ≤ w.heap.size) : Below B w (W.setCell ⟨b, o, none⟩ v) :=
  h.trans ((chg_setCell (S := fun j => j = b) rfl W o v).below (fun k hk => by rw [hk]; exact hb) (Nat.le_trans hB h.size))
def nd6 (x y : Int) (v1 : Value) (s : Bool) (v2 v3 : Value) : List Value := [.int .i64 x, .int .i64 y, v1, .bool s, v2, v3]
def NB (W : World) (b : Nat) (x y : Int) (v1 : Value) (s : Bool) (v2 v3 : Value) : Prop := W.heap[b]? = some (.cells (nd6 x y v1 s v2 v3).toArray 33 (0, 0))
section
variable {w W W' : World} {b B : Nat} {x y : Int} {v1 v2 v3 : Value} {s : Bool}
theorem NB.cells (h : NB W b x y v1 s v2 v3) : W.cell? ⟨b, 2, none⟩ = some v1 ∧ W.cell? ⟨b, 4, none⟩ = some v2 ∧ W.cell? ⟨b, 5, none⟩ = some v3 ∧ ∀ i, W.frozen? ⟨b, i, none⟩ = false := by
  unfold NB at h
  simp [World.cell?, World.frozen?, h, nd6]
theorem NB.kept (h : NB W b x y v1 s v2 v3) (hb : Below W.heap.size W W') : NB W' b x y v1 s v2 v3 := (hb.block b (Array.getElem?_eq_some_iff.1 h).1).trans h
theorem NB.lt (h : NB W b x y v1 s v2 v3) : b < W.heap.size := (Array.getElem?_eq_some_iff.1 h).1
theorem NB.range (h : NB W b x y v1 s v2 v3) : W.rangeAt b 0 (nd6 x y v1 s v2 v3) := fun j u hu => by
  unfold NB at h
  simp [World.cell?, h]
  simpa using hu
theorem NB.put2 (h : NB W b x y v1 s v2 v3) (v : Value) : NB (W.setCell ⟨b, 2, none⟩ v) b x y v s v2 v3 := by
  unfold NB at h ⊢
  rw [heap_setCell_same W b 2 _ _ _ h]
  rfl
theorem NB.put4 (h : NB W b x y v1 s v2 v3) (v : Value) : NB (W.setCell ⟨b, 4, none⟩ v) b x y v1 s v v3 := by
  unfold NB at h ⊢
  rw [heap_setCell_same W b 4 _ _ _ h]
  rfl
theorem NB.put5 (h : NB W b x y v1 s v2 v3) (v : Value) : NB (W.setCell ⟨b, 5, none⟩ v) b x y v1 s v2 v := by
  unfold NB at h ⊢
  rw [heap_setCell_same W b 5 _ _ _ h]
  rfl
theorem NB.other (h : NB W b x y v1 s v2 v3) {c i : Nat} (hc : b ≠ c) (v : Value) : NB (W.setCell ⟨c, i, none⟩ v) b x y v1 s v2 v3 := by
  unfold NB at h ⊢
  rw [heap_setCell_other _ _ _ _ hc]
  exact h
theorem nd6_one {a1 a2 a3 : Option Addr} {n1 n2 n3 c1 c2 c3 : Nat} : ∀ u ∈ nd6 x y (.slice a1 n1 c1) s (.slice a2 n2 c2) (.slice a3 n3 c3), u.oneCell' = true := by
  intro u hu
  simp only [nd6, List.mem_cons, List.not_mem_nil, or_false] at hu
  rcases hu with rfl | rfl | rfl | rfl | rfl | rfl <;> rfl
end
def GivesNd (x y : Int) (s : Bool) (w : World) (e : Ending) (w' : World) : Prop := ∃ b1 n1 k1 b2 n2 k2 b3 n3 k3, e = .returned (.agg #[.int .i64 x, .int .i64 y, .slice b1 n1 k1, .bool s, .slice b2 n2 k2, .slice b3 n3 k3]) ∧ Below w.heap.size w w'
section
variable {w w' : World} {n : Nd} {ka : Option Addr} {kc : Nat} {s : Bool} {a1 : Option Addr} {l1 c1 : Nat} {a2 : Option Addr} {l2 c2 : Nat}
set_option maxRecDepth 100000 in
set_option maxHeartbeats 8000000 in
theorem own_any (hn : NodeAt w n ka kc s a1 l1 c1 a2 l2 c2) : Calls Tryz.prog 33 #[.agg #[.int .i64 n.op, .int .i64 n.v, .slice ka n.kids.length kc, .bool s, .slice a1 l1 c1, .slice a2 l2 c2]] w (GivesNd n.op n.v s w) := by
  have HC0 := Lib.hid (fun W (hW : Below w.heap.size w W) => clone_int (hn.kids.cel.kept hW))
  have HC1 := Lib.hid (fun W (hW : Below w.heap.size w W) => clone_nat (hn.m1.kept hW))
  have HC2 := Lib.hid (fun W (hW : Below w.heap.size w W) => clone_nat (hn.m2.kept hW))
  obtain ⟨W2, hW2⟩ : ∃ W2, W2 = (w.alloc (.cells #[.int .i64 n.op, .int .i64 n.v, .slice ka n.kids.length kc, .bool s, .slice a1 l1 c1, .slice a2 l2 c2] 33)).alloc (.cells #[.int .i64 0, .int .i64 0, .slice none 0 0, .bool false, .slice none 0 0, .slice none 0 0] 33) := ⟨_, rfl⟩
  have hb2 : Below w.heap.size w W2 := by rw [hW2]; exact ((Below.refl _ _).alloc (Nat.le_refl _) _).alloc (by simp) _
  have h1 : NB W2 w.heap.size n.op n.v (.slice ka n.kids.length kc) s (.slice a1 l1 c1) (.slice a2 l2 c2) := by
    unfold NB
    rw [hW2, Below.heap_alloc _ _ _ (by simp)]
    exact heap_alloc_new w _
  have h2 : NB W2 (w.heap.size + 1) 0 0 (.slice none 0 0) false (.slice none 0 0) (.slice none 0 0) := by
    unfold NB
    rw [hW2]
    have := heap_alloc_new (w.alloc (.cells #[.int .i64 n.op, .int .i64 n.v, .slice ka n.kids.length kc, .bool s, .slice a1 l1 c1, .slice a2 l2 c2] 33)) (.cells #[.int .i64 0, .int .i64 0, .slice none 0 0, .bool false, .slice none 0 0, .slice none 0 0] 33)
    rw [World.size_alloc] at this
    exact this
  generalize n.kids.length = kl at *
  generalize n.op = x at *
  generalize n.v = y at *
  have HB := Lib.hid hb2
  have H1 := Lib.hid h1
  have H2 := Lib.hid h2
  have hs2 : W2.heap.size = w.heap.size + 2 := by rw [hW2]; simp
  have HS := Lib.hid (show w.heap.size + 2 ≤ W2.heap.size by omega)
  obtain ⟨x1, x2, x3, x4⟩ := h1.cells
  clear hn hb2 h1 h2 hs2
  go_enter Tryz.func33, Tryz.ntmps33
  go_wp2_with fail
  rw [← hW2]
  clear hW2
  go_wp2_with fail
  refine (HC0.out _ HB.out).mono ?_
  rintro e W3 ⟨b1, n1, k1, rfl, hb⟩
  have HB' : Hid (Below w.heap.size w (W3.setCell ⟨w.heap.size, 2, none⟩ (.slice b1 n1 k1))) := Lib.hid (below_put (HB.out.trans (hb.mono HB.out.size)) (Nat.le_refl _) (Nat.le_refl _))
  have h1' := H1.out.kept hb
  have H1' := Lib.hid (h1'.put2 (.slice b1 n1 k1))
  have H2' := Lib.hid ((H2.out.kept hb).other (c := w.heap.size) (i := 2) (by omega) (.slice b1 n1 k1))
  clear x1 x2 x3 x4
  obtain ⟨x1, x2, x3, x4⟩ := h1'.cells
  clear h1' hb HB H1 H2
  have HB := HB'
  have H1 := H1'
  have H2 := H2'
  clear HB' H1' H2'
  go_wp2_with fail
  refine (HC1.out _ HB.out).mono ?_
  rintro e W4 ⟨b2, n2, k2, rfl, hb⟩
  have HB' : Hid (Below w.heap.size w (W4.setCell ⟨w.heap.size, 4, none⟩ (.slice b2 n2 k2))) := Lib.hid (below_put (HB.out.trans (hb.mono HB.out.size)) (Nat.le_refl _) (Nat.le_refl _))
  have h1' := H1.out.kept hb
  have H1' := Lib.hid (h1'.put4 (.slice b2 n2 k2))
  have H2' := Lib.hid ((H2.out.kept hb).other (c := w.heap.size) (i := 4) (by omega) (.slice b2 n2 k2))
  clear x1 x2 x3 x4
  obtain ⟨x1, x2, x3, x4⟩ := h1'.cells
  clear h1' hb HB H1 H2
  have HB := HB'
  have H1 := H1'
  have H2 := H2'
  clear HB' H1' H2'
  go_wp2_with fail
  refine (HC2.out _ HB.out).mono ?_
  rintro e W5 ⟨b3, n3, k3, rfl, hb⟩
  have HB' : Hid (Below w.heap.size w (W5.setCell ⟨w.heap.size, 5, none⟩ (.slice b3 n3 k3))) := Lib.hid (below_put (HB.out.trans (hb.mono HB.out.size)) (Nat.le_refl _) (Nat.le_refl _))
  have h1' := H1.out.kept hb
  have H1' := Lib.hid (h1'.put5 (.slice b3 n3 k3))
  have H2' := Lib.hid ((H2.out.kept hb).other (c := w.heap.size) (i := 5) (by omega) (.slice b3 n3 k3))
  clear x1 x2 x3 x4
  obtain ⟨x1, x2, x3, x4⟩ := h1'.cells
  clear h1' hb HB H1 H2
  have HB := HB'
  have H1 := H1'
  have H2 := H2'
  clear HB' H1' H2'
  have hrng := H1.out.range
  have HTH : Hid ((W5.setCell ⟨w.heap.size, 5, none⟩ (.slice b3 n3 k3)).there (w.heap.size + 1) 0 6) := Lib.hid (fun j hj => by
    have := H2.out
    unfold NB at this
    simp [World.cell?, World.frozen?, this, nd6]
    omega)
  go_wp2_with (first | (refine wpList_val (.agg (nd6 x y (.slice b1 n1 k1) s (.slice b2 n2 k2) (.slice b3 n3 k3)).toArray) (run_load_op 33 (.tmp 1) (by with_reducible rfl) w.heap.size 0 (by rfl) (nd6 x y (.slice b1 n1 k1) s (.slice b2 n2 k2) (.slice b3 n3 k3)) _ hrng Tryz.underlying33 rfl (by rw [size_node]; rfl)) (by rfl) ?_) | (refine wpList_store_mid rfl 33 (.tmp 2) (.tmp 21) rfl (w.heap.size + 1) 0 (nd6 x y (.slice b1 n1 k1) s (.slice b2 n2 k2) (.slice b3 n3 k3)).toArray rfl rfl HTH.out (by rw [size_node]; rfl) (all_oneCell_toArray nd6_one) ?_))
  have hfin : NB ((W5.setCell ⟨w.heap.size, 5, none⟩ (.slice b3 n3 k3)).setCells (w.heap.size + 1) 0 (nd6 x y (.slice b1 n1 k1) s (.slice b2 n2 k2) (.slice b3 n3 k3))) (w.heap.size + 1) x y (.slice b1 n1 k1) s (.slice b2 n2 k2) (.slice b3 n3 k3) := by
    have := heap_setCells_same (w.heap.size + 1) 33 (nd6 x y (.slice b1 n1 k1) s (.slice b2 n2 k2) (.slice b3 n3 k3)) 0 _ _ H2.out (by simp [nd6])
    unfold NB
    rw [this]
    rfl
  refine bodyPost_ret (v := .agg (nd6 x y (.slice b1 n1 k1) s (.slice b2 n2 k2) (.slice b3 n3 k3)).toArray) ?_ rfl ⟨b1, n1, k1, b2, n2, k2, b3, n3, k3, rfl, ?_⟩
  · simp only [results, Tryz.results33, asAddr, Act.put]
    have := run_loadVar_mid (P := Tryz.prog) _ (w.heap.size + 1) 0 33 (nd6 x y (.slice b1 n1 k1) s (.slice b2 n2 k2) (.slice b3 n3 k3)) _ hfin.range Tryz.underlying33 rfl (by rw [size_node]; rfl)
    simpa [results, Tryz.results33, asAddr, Act.put] using this
  · exact HB.out.trans ((chg_setCells (S := fun j => j = w.heap.size + 1) rfl _ 0 _).below (fun k hk => by rw [hk]; omega) (by have := HB.out.size; exact this))
end
end Go.Proofs.YthnklohpmcebkaaGreatDoor
