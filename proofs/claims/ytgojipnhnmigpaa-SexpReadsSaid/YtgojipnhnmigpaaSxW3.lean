/-
  Layer 8: the walk: visit.
-/
import Derived.Test.YtgojipnhnmigpaaSxW2
set_option linter.unusedVariables false
set_option linter.unusedSimpArgs false
namespace Go.Proofs.Ytgojipnhnmigpaa
open Go.RowKit Sx

theorem run_look {o : Oper} {a : Act} {w : World} (x y : Operand) (ho : o.op = .lookup 69 x y true) {m : Nat} {p : Nat × Nat} {M : List ((Nat × Nat) × Int)} (hx : a.eval x = .map (some m)) (hy : a.eval y = pk p) (hm : PMap w m M) (hb : Blk w p.1)
    {D : Int} {b : Bool} (h1 : (look M p).getD 0 = D) (h2 : (look M p).isSome = b) : (execOp a.eval o).run Try.prog w = .ok (.value (.tuple #[.int .i64 D, .bool b])) w := by
  have := hm.lookup hb
  rw [h1, h2] at this
  unfold execOp
  simp [ho, hx, hy, this]
section
variable {B R m : Nat} {W W' : World} {path : List Sp} {pv : Value} {M : List ((Nat × Nat) × Int)} {s : Sp} {l : Bool} {K P : Int} {T : ByteArray} {v : Value}
theorem box_below (W : World) (C : Array Value) (t : TypeId) : Below W.heap.size W (W.alloc (.cells C t)) := (Below.refl _ _).alloc (Nat.le_refl _) _
set_option maxRecDepth 100000 in
set_option maxHeartbeats 8000000 in
theorem visit_leaf (h : WSt B R m W (s :: path) pv M) (hp : path.length ≤ 1900000) (hi : s.i < 9223372036854775807) {A : Option Addr} {n c : Nat} :
    Calls Try.prog 25 #[.pointer (some ⟨R, 0, none⟩), .agg #[.bool false, .int .i64 K, .string T, .int .i64 P, .slice A n c]] W (fun e w' => e = .returned (.tuple #[]) ∧ WSt B R m w' (⟨s.v, s.k, s.i + 1, max s.d 0⟩ :: path) pv M ∧ Chg (Own8 B R m) W w') := by
  have HPUT := Lib.hid (wput_any (d := 0) (h.kept (box_below W #[.bool false, .int .i64 K, .string T, .int .i64 P, .slice A n c] 38)) (by omega) (by omega) hi)
  have HB : Hid (Chg (Own8 B R m) W (W.alloc (.cells #[.bool false, .int .i64 K, .string T, .int .i64 P, .slice A n c] 38))) := Lib.hid (.of_below (box_below W _ _))
  clear h hp hi
  go_enter Try.func25, Try.ntmps25
  go_wp2_with fail
  refine HPUT.out.mono ?_
  rintro e w5 ⟨rfl, h5⟩
  have HE : Hid (WSt B R m w5 (⟨s.v, s.k, s.i + 1, max s.d 0⟩ :: path) pv M ∧ Chg (Own8 B R m) W w5) := Lib.hid ⟨h5.1, HB.out.step h5.2⟩
  clear h5 HPUT
  go_wp2_with fail
  go_end0
  exact ⟨rfl, HE.out⟩
set_option maxRecDepth 100000 in
set_option maxHeartbeats 8000000 in
theorem visit_empty (h : WSt B R m W (s :: path) pv M) (hp : path.length ≤ 1900000) (hi : s.i < 9223372036854775807) {A : Option Addr} {c : Nat} :
    Calls Try.prog 25 #[.pointer (some ⟨R, 0, none⟩), .agg #[.bool true, .int .i64 K, .string T, .int .i64 P, .slice A 0 c]] W (fun e w' => e = .returned (.tuple #[]) ∧ WSt B R m w' (⟨s.v, s.k, s.i + 1, max s.d 1⟩ :: path) pv M ∧ Chg (Own8 B R m) W w') := by
  have HPUT := Lib.hid (wput_any (d := 1) (h.kept (box_below W #[.bool true, .int .i64 K, .string T, .int .i64 P, .slice A 0 c] 38)) (by omega) (by omega) hi)
  have HB : Hid (Chg (Own8 B R m) W (W.alloc (.cells #[.bool true, .int .i64 K, .string T, .int .i64 P, .slice A 0 c] 38))) := Lib.hid (.of_below (box_below W _ _))
  clear h hp hi
  go_enter Try.func25, Try.ntmps25
  go_wp2_with fail
  refine HPUT.out.mono ?_
  rintro e w5 ⟨rfl, h5⟩
  have HE : Hid (WSt B R m w5 (⟨s.v, s.k, s.i + 1, max s.d 1⟩ :: path) pv M ∧ Chg (Own8 B R m) W w5) := Lib.hid ⟨h5.1, HB.out.step h5.2⟩
  clear h5 HPUT
  go_wp2_with fail
  go_end0
  exact ⟨rfl, HE.out⟩
set_option maxRecDepth 100000 in
set_option maxHeartbeats 8000000 in
theorem visit_known {g n c d : Nat} (h : WSt B R m W (s :: path) pv M) (hp : path.length ≤ 1900000) (hi : s.i < 9223372036854775807) (hn : 0 < n) (hb : Blk W g) (hd : look M (g, n) = some (d : Int)) (hd2 : d ≤ 9000000) :
    Calls Try.prog 25 #[.pointer (some ⟨R, 0, none⟩), .agg #[.bool true, .int .i64 K, .string T, .int .i64 P, .slice (some ⟨g, 0, none⟩) n c]] W (fun e w' => e = .returned (.tuple #[]) ∧ WSt B R m w' (⟨s.v, s.k, s.i + 1, max s.d (d + 1)⟩ :: path) pv M ∧ Chg (Own8 B R m) W w') := by
  obtain ⟨W1, hW1⟩ : ∃ W1, W1 = W.alloc (.cells #[.bool true, .int .i64 K, .string T, .int .i64 P, .slice (some ⟨g, 0, none⟩) n c] 38) := ⟨_, rfl⟩
  have b1 : Below W.heap.size W W1 := by rw [hW1]; exact box_below W _ _
  have h1 := h.kept b1
  have hc1 := h1.cells
  have hbx : W1.cell? ⟨W.heap.size, 4, none⟩ = some (.slice (some ⟨g, 0, none⟩) n c) := by rw [hW1]; simp
  have HC := Lib.hid (And.intro hc1.2.1 hbx)
  have HB1 := Lib.hid b1
  have HBL := Lib.hid (hb.kept b1)
  have HH := Lib.hid h1
  have HPL := Lib.hid (placeOf_any (w := W1.drew) (g := g) (c := c) hn)
  have hn0 : ((n : Int) == 0) = false := by simp; omega
  clear hbx b1
  have hlk : (look M (g, n)).getD 0 = (d : Int) ∧ (look M (g, n)).isSome = true := by rw [hd]; exact ⟨rfl, rfl⟩
  have HLK := Lib.hid hlk
  have HWT := Lib.hid (fun w => wth_any (w := w) (d := d) (by omega))
  have HM := Lib.hid (And.intro hp (And.intro hd2 hi))
  clear h hp hi hd hd2 hb h1 hc1 hlk hn
  go_enter Try.func25, Try.ntmps25
  go_wp2_with fail
  refine wp_region_held_drew (S := (fun w' => w'.cell? ⟨R, 1, none⟩ = some (.map (some m)) ∧ w'.cell? ⟨W.heap.size, 4, none⟩ = some (.slice (some ⟨g, 0, none⟩) n c))) (by kernel_rfl) ?_ (fun hHeld => ?_)
  · first | exact HC.out | (rw [← hW1]; exact HC.out)
  refine wpAnyH_take (i := 0) (v := ?_) (by rfl) (by kernel_rfl) (by kernel_rfl) (by kernel_rfl) (by exact fun _ _ _ h => h) (Or.inl ⟨by rfl, ?_⟩) hHeld ?_
  rotate_left 1
  · intro w' hSw
    (try dsimp only at hSw)
    go_simp
    try with_reducible rfl
  try simp only [Act.put, List.setIfInBounds_toArray, List.set_cons_zero, List.set_cons_succ, List.getElem_toArray, List.getElem_cons_zero, List.getElem_cons_succ]
  refine wpAnyH_take (i := 1) (v := ?_) (by rfl) (by kernel_rfl) (by kernel_rfl) (by kernel_rfl) (by exact fun _ _ _ h => h) (Or.inl ⟨by rfl, ?_⟩) hHeld ?_
  rotate_left 1
  · intro w' hSw
    (try dsimp only at hSw)
    go_simp
    try with_reducible rfl
  try simp only [Act.put, List.setIfInBounds_toArray, List.set_cons_zero, List.set_cons_succ, List.getElem_toArray, List.getElem_cons_zero, List.getElem_cons_succ]
  refine wpAnyH_take (i := 2) (v := ?_) (by rfl) (by kernel_rfl) (by kernel_rfl) (by kernel_rfl) (by exact fun _ _ _ h => h) (Or.inl ⟨by rfl, ?_⟩) hHeld ?_
  rotate_left 1
  · intro w' hSw
    (try dsimp only at hSw)
    go_simp
    try with_reducible rfl
  try simp only [Act.put, List.setIfInBounds_toArray, List.set_cons_zero, List.set_cons_succ, List.getElem_toArray, List.getElem_cons_zero, List.getElem_cons_succ]
  refine wpAnyH_take (i := 3) (v := .map (some m)) (by rfl) (by kernel_rfl) (by kernel_rfl) (by kernel_rfl) (by exact fun _ _ _ h => h) (Or.inl ⟨by rfl, ?_⟩) hHeld ?_
  · intro w' hSw
    exact load_map (.tmp 9) rfl rfl hSw.1
  try simp only [Act.put, List.setIfInBounds_toArray, List.set_cons_zero, List.set_cons_succ, List.getElem_toArray, List.getElem_cons_zero, List.getElem_cons_succ]
  refine wpAnyH_take (i := 4) (v := ?_) (by rfl) (by kernel_rfl) (by kernel_rfl) (by kernel_rfl) (by exact fun _ _ _ h => h) (Or.inl ⟨by rfl, ?_⟩) hHeld ?_
  rotate_left 1
  · intro w' hSw
    (try dsimp only at hSw)
    go_simp
    try with_reducible rfl
  try simp only [Act.put, List.setIfInBounds_toArray, List.set_cons_zero, List.set_cons_succ, List.getElem_toArray, List.getElem_cons_zero, List.getElem_cons_succ]
  refine wpAnyH_take (i := 5) (v := .slice (some ⟨g, 0, none⟩) n c) (by rfl) (by kernel_rfl) (by kernel_rfl) (by kernel_rfl) (by exact fun _ _ _ h => h) (Or.inl ⟨by rfl, ?_⟩) hHeld ?_
  · intro w' hSw
    exact load_sl (.tmp 11) rfl rfl hSw.2
  try simp only [Act.put, List.setIfInBounds_toArray, List.set_cons_zero, List.set_cons_succ, List.getElem_toArray, List.getElem_cons_zero, List.getElem_cons_succ]
  refine wpAnyH_ready (rs := [6]) (by kernel_rfl) (by simp) ?_
  refine AllReadyH.cons (by rfl) (fun K hK => ?_) AllReadyH.nil
  go_simp
  try rw [← hW1]
  refine HPL.out.mono ?_
  rintro e w5 ⟨rfl, hb5⟩
  refine hK.out _ _ ?_ (fun hHeld => ?_)
  · exact ⟨(hb5.cell (p := ⟨R, 1, none⟩) (World.block_lt_of_cell? _ _ HC.out.1)).trans HC.out.1, (hb5.cell (p := ⟨W.heap.size, 4, none⟩) (World.block_lt_of_cell? _ _ HC.out.2)).trans HC.out.2⟩
  clear hK K
  try simp only [Act.put, List.setIfInBounds_toArray, List.set_cons_zero, List.set_cons_succ, List.getElem_toArray, List.getElem_cons_zero, List.getElem_cons_succ]
  refine wpAnyH_ready (rs := [7]) (by kernel_rfl) (by simp) ?_
  refine AllReadyH.cons (by rfl) (fun K hK => ?_) AllReadyH.nil
  have h5 := (HH.out.kept ((Below.refl _ _).drew)).kept hb5
  have hbl5 := (HBL.out.kept ((Below.refl _ _).drew)).kept hb5
  refine step_val (.tuple #[.int .i64 (d : Int), .bool true]) (run_look (.tmp 10) (.tmp 13) rfl (p := (g, n)) rfl rfl h5.map hbl5 HLK.out.1 HLK.out.2) rfl ?_
  refine hK.out _ _ ?_ (fun hHeld => ?_)
  · exact hHeld
  clear hK K
  try simp only [Act.put, List.setIfInBounds_toArray, List.set_cons_zero, List.set_cons_succ, List.getElem_toArray, List.getElem_cons_zero, List.getElem_cons_succ]
  refine wpAnyH_take (i := 8) (v := ?_) (by rfl) (by kernel_rfl) (by kernel_rfl) (by kernel_rfl) (by exact fun _ _ _ h => h) (Or.inl ⟨by rfl, ?_⟩) hHeld ?_
  rotate_left 1
  · intro w' hSw
    (try dsimp only at hSw)
    go_simp
    try with_reducible rfl
  try simp only [Act.put, List.setIfInBounds_toArray, List.set_cons_zero, List.set_cons_succ, List.getElem_toArray, List.getElem_cons_zero, List.getElem_cons_succ]
  refine wpAnyH_take (i := 9) (v := ?_) (by rfl) (by kernel_rfl) (by kernel_rfl) (by kernel_rfl) (by exact fun _ _ _ h => h) (Or.inl ⟨by rfl, ?_⟩) hHeld ?_
  rotate_left 1
  · intro w' hSw
    (try dsimp only at hSw)
    go_simp
    try with_reducible rfl
  try simp only [Act.put, List.setIfInBounds_toArray, List.set_cons_zero, List.set_cons_succ, List.getElem_toArray, List.getElem_cons_zero, List.getElem_cons_succ]
  refine wpAnyH_take (i := 10) (v := ?_) (by rfl) (by kernel_rfl) (by kernel_rfl) (by kernel_rfl) (by exact fun _ _ _ h => h) (Or.inl ⟨by rfl, ?_⟩) hHeld ?_
  rotate_left 1
  · intro w' hSw
    (try dsimp only at hSw)
    go_simp
    try with_reducible rfl
  try simp only [Act.put, List.setIfInBounds_toArray, List.set_cons_zero, List.set_cons_succ, List.getElem_toArray, List.getElem_cons_zero, List.getElem_cons_succ]
  refine wpAnyH_take (i := 11) (v := ?_) (by rfl) (by kernel_rfl) (by kernel_rfl) (by kernel_rfl) (by exact fun _ _ _ h => h) (Or.inl ⟨by rfl, ?_⟩) hHeld ?_
  rotate_left 1
  · intro w' hSw
    (try dsimp only at hSw)
    go_simp
    try with_reducible rfl
  try simp only [Act.put, List.setIfInBounds_toArray, List.set_cons_zero, List.set_cons_succ, List.getElem_toArray, List.getElem_cons_zero, List.getElem_cons_succ]
  refine wpAnyH_take (i := 12) (v := ?_) (by rfl) (by kernel_rfl) (by kernel_rfl) (by kernel_rfl) (by exact fun _ _ _ h => h) (Or.inl ⟨by rfl, ?_⟩) hHeld ?_
  rotate_left 1
  · intro w' hSw
    (try dsimp only at hSw)
    go_simp
    try with_reducible rfl
  try simp only [Act.put, List.setIfInBounds_toArray, List.set_cons_zero, List.set_cons_succ, List.getElem_toArray, List.getElem_cons_zero, List.getElem_cons_succ]
  refine wpAnyH_done (by kernel_rfl) ?_ _
  clear hHeld
  have HPUT := Lib.hid (wput_any (d := d + 1) h5 (by have := HM.out; omega) (by have := HM.out; omega) HM.out.2.2)
  have HCH : Hid (Chg (Own8 B R m) W w5) := Lib.hid (((Chg.of_below HB1.out).step Chg.drew).step (Chg.of_below hb5))
  clear h5 hb5 hbl5
  go_wp2_with fail
  refine (HWT.out w5).mono ?_
  rintro e w6 ⟨rfl, rfl⟩
  go_wp2_with fail
  refine HPUT.out.mono ?_
  rintro e w7 ⟨rfl, h7⟩
  have HE : Hid (WSt B R m w7 (⟨s.v, s.k, s.i + 1, max s.d (d + 1)⟩ :: path) pv M ∧ Chg (Own8 B R m) W w7) := Lib.hid ⟨h7.1, HCH.out.step h7.2⟩
  clear h7 HPUT
  go_wp2_with fail
  refine bodyPost_ret (results_none rfl _ _ _) rfl ?_
  exact ⟨rfl, HE.out⟩
set_option maxRecDepth 100000 in
set_option maxHeartbeats 8000000 in
theorem visit_new {g n c : Nat} {k : Fo} (h : WSt B R m W (s :: path) pv M) (hp : path.length ≤ 1800000) (hs : SlAt W (Old B R m) (.slice (some ⟨g, 0, none⟩) n c) k) (hn : 0 < n) (hd : look M (g, n) = none) :
    Calls Try.prog 25 #[.pointer (some ⟨R, 0, none⟩), .agg #[.bool true, .int .i64 K, .string T, .int .i64 P, .slice (some ⟨g, 0, none⟩) n c]] W (fun e w' => e = .returned (.tuple #[]) ∧ ∃ pv', WSt B R m w' (⟨.slice (some ⟨g, 0, none⟩) n c, k, 0, 0⟩ :: s :: path) pv' (upd M (g, n) 9223372036854775807) ∧ Chg (Own8 B R m) W w') := by
  have hb := (hs.blk hn).2.1
  obtain ⟨W1, hW1⟩ : ∃ W1, W1 = W.alloc (.cells #[.bool true, .int .i64 K, .string T, .int .i64 P, .slice (some ⟨g, 0, none⟩) n c] 38) := ⟨_, rfl⟩
  have b1 : Below W.heap.size W W1 := by rw [hW1]; exact box_below W _ _
  have h1 := h.kept b1
  have hc1 := h1.cells
  have hbx : W1.cell? ⟨W.heap.size, 4, none⟩ = some (.slice (some ⟨g, 0, none⟩) n c) := by rw [hW1]; simp
  have HC := Lib.hid (And.intro hc1.2.1 hbx)
  have HB1 := Lib.hid b1
  have HBL := Lib.hid (hb.kept b1)
  have HH := Lib.hid h1
  have HPL := Lib.hid (placeOf_any (w := W1.drew) (g := g) (c := c) hn)
  have hn0 : ((n : Int) == 0) = false := by simp; omega
  clear hbx b1
  have hlk : (look M (g, n)).isSome = false := by rw [hd]; rfl
  have HLK := Lib.hid hlk
  have HM := Lib.hid (And.intro hp (And.intro hn hs))
  clear h hp hs hd hb h1 hc1 hlk hn
  go_enter Try.func25, Try.ntmps25
  go_wp2_with fail
  refine wp_region_held_drew (S := (fun w' => w'.cell? ⟨R, 1, none⟩ = some (.map (some m)) ∧ w'.cell? ⟨W.heap.size, 4, none⟩ = some (.slice (some ⟨g, 0, none⟩) n c))) (by kernel_rfl) ?_ (fun hHeld => ?_)
  · first | exact HC.out | (rw [← hW1]; exact HC.out)
  refine wpAnyH_take (i := 0) (v := ?_) (by rfl) (by kernel_rfl) (by kernel_rfl) (by kernel_rfl) (by exact fun _ _ _ h => h) (Or.inl ⟨by rfl, ?_⟩) hHeld ?_
  rotate_left 1
  · intro w' hSw
    (try dsimp only at hSw)
    go_simp
    try with_reducible rfl
  try simp only [Act.put, List.setIfInBounds_toArray, List.set_cons_zero, List.set_cons_succ, List.getElem_toArray, List.getElem_cons_zero, List.getElem_cons_succ]
  refine wpAnyH_take (i := 1) (v := ?_) (by rfl) (by kernel_rfl) (by kernel_rfl) (by kernel_rfl) (by exact fun _ _ _ h => h) (Or.inl ⟨by rfl, ?_⟩) hHeld ?_
  rotate_left 1
  · intro w' hSw
    (try dsimp only at hSw)
    go_simp
    try with_reducible rfl
  try simp only [Act.put, List.setIfInBounds_toArray, List.set_cons_zero, List.set_cons_succ, List.getElem_toArray, List.getElem_cons_zero, List.getElem_cons_succ]
  refine wpAnyH_take (i := 2) (v := ?_) (by rfl) (by kernel_rfl) (by kernel_rfl) (by kernel_rfl) (by exact fun _ _ _ h => h) (Or.inl ⟨by rfl, ?_⟩) hHeld ?_
  rotate_left 1
  · intro w' hSw
    (try dsimp only at hSw)
    go_simp
    try with_reducible rfl
  try simp only [Act.put, List.setIfInBounds_toArray, List.set_cons_zero, List.set_cons_succ, List.getElem_toArray, List.getElem_cons_zero, List.getElem_cons_succ]
  refine wpAnyH_take (i := 3) (v := .map (some m)) (by rfl) (by kernel_rfl) (by kernel_rfl) (by kernel_rfl) (by exact fun _ _ _ h => h) (Or.inl ⟨by rfl, ?_⟩) hHeld ?_
  · intro w' hSw
    exact load_map (.tmp 9) rfl rfl hSw.1
  try simp only [Act.put, List.setIfInBounds_toArray, List.set_cons_zero, List.set_cons_succ, List.getElem_toArray, List.getElem_cons_zero, List.getElem_cons_succ]
  refine wpAnyH_take (i := 4) (v := ?_) (by rfl) (by kernel_rfl) (by kernel_rfl) (by kernel_rfl) (by exact fun _ _ _ h => h) (Or.inl ⟨by rfl, ?_⟩) hHeld ?_
  rotate_left 1
  · intro w' hSw
    (try dsimp only at hSw)
    go_simp
    try with_reducible rfl
  try simp only [Act.put, List.setIfInBounds_toArray, List.set_cons_zero, List.set_cons_succ, List.getElem_toArray, List.getElem_cons_zero, List.getElem_cons_succ]
  refine wpAnyH_take (i := 5) (v := .slice (some ⟨g, 0, none⟩) n c) (by rfl) (by kernel_rfl) (by kernel_rfl) (by kernel_rfl) (by exact fun _ _ _ h => h) (Or.inl ⟨by rfl, ?_⟩) hHeld ?_
  · intro w' hSw
    exact load_sl (.tmp 11) rfl rfl hSw.2
  try simp only [Act.put, List.setIfInBounds_toArray, List.set_cons_zero, List.set_cons_succ, List.getElem_toArray, List.getElem_cons_zero, List.getElem_cons_succ]
  refine wpAnyH_ready (rs := [6]) (by kernel_rfl) (by simp) ?_
  refine AllReadyH.cons (by rfl) (fun K hK => ?_) AllReadyH.nil
  go_simp
  try rw [← hW1]
  refine HPL.out.mono ?_
  rintro e w5 ⟨rfl, hb5⟩
  refine hK.out _ _ ?_ (fun hHeld => ?_)
  · exact ⟨(hb5.cell (p := ⟨R, 1, none⟩) (World.block_lt_of_cell? _ _ HC.out.1)).trans HC.out.1, (hb5.cell (p := ⟨W.heap.size, 4, none⟩) (World.block_lt_of_cell? _ _ HC.out.2)).trans HC.out.2⟩
  clear hK K
  try simp only [Act.put, List.setIfInBounds_toArray, List.set_cons_zero, List.set_cons_succ, List.getElem_toArray, List.getElem_cons_zero, List.getElem_cons_succ]
  refine wpAnyH_ready (rs := [7]) (by kernel_rfl) (by simp) ?_
  refine AllReadyH.cons (by rfl) (fun K hK => ?_) AllReadyH.nil
  have h5 := (HH.out.kept ((Below.refl _ _).drew)).kept hb5
  have hbl5 := (HBL.out.kept ((Below.refl _ _).drew)).kept hb5
  refine step_val (.tuple #[.int .i64 ((look M (g, n)).getD 0), .bool false]) (run_look (.tmp 10) (.tmp 13) rfl (p := (g, n)) rfl rfl h5.map hbl5 rfl HLK.out) rfl ?_
  refine hK.out _ _ ?_ (fun hHeld => ?_)
  · exact hHeld
  clear hK K
  try simp only [Act.put, List.setIfInBounds_toArray, List.set_cons_zero, List.set_cons_succ, List.getElem_toArray, List.getElem_cons_zero, List.getElem_cons_succ]
  refine wpAnyH_take (i := 8) (v := ?_) (by rfl) (by kernel_rfl) (by kernel_rfl) (by kernel_rfl) (by exact fun _ _ _ h => h) (Or.inl ⟨by rfl, ?_⟩) hHeld ?_
  rotate_left 1
  · intro w' hSw
    (try dsimp only at hSw)
    go_simp
    try with_reducible rfl
  try simp only [Act.put, List.setIfInBounds_toArray, List.set_cons_zero, List.set_cons_succ, List.getElem_toArray, List.getElem_cons_zero, List.getElem_cons_succ]
  refine wpAnyH_take (i := 9) (v := ?_) (by rfl) (by kernel_rfl) (by kernel_rfl) (by kernel_rfl) (by exact fun _ _ _ h => h) (Or.inl ⟨by rfl, ?_⟩) hHeld ?_
  rotate_left 1
  · intro w' hSw
    (try dsimp only at hSw)
    go_simp
    try with_reducible rfl
  try simp only [Act.put, List.setIfInBounds_toArray, List.set_cons_zero, List.set_cons_succ, List.getElem_toArray, List.getElem_cons_zero, List.getElem_cons_succ]
  refine wpAnyH_take (i := 10) (v := ?_) (by rfl) (by kernel_rfl) (by kernel_rfl) (by kernel_rfl) (by exact fun _ _ _ h => h) (Or.inl ⟨by rfl, ?_⟩) hHeld ?_
  rotate_left 1
  · intro w' hSw
    (try dsimp only at hSw)
    go_simp
    try with_reducible rfl
  try simp only [Act.put, List.setIfInBounds_toArray, List.set_cons_zero, List.set_cons_succ, List.getElem_toArray, List.getElem_cons_zero, List.getElem_cons_succ]
  refine wpAnyH_take (i := 11) (v := ?_) (by rfl) (by kernel_rfl) (by kernel_rfl) (by kernel_rfl) (by exact fun _ _ _ h => h) (Or.inl ⟨by rfl, ?_⟩) hHeld ?_
  rotate_left 1
  · intro w' hSw
    (try dsimp only at hSw)
    go_simp
    try with_reducible rfl
  try simp only [Act.put, List.setIfInBounds_toArray, List.set_cons_zero, List.set_cons_succ, List.getElem_toArray, List.getElem_cons_zero, List.getElem_cons_succ]
  refine wpAnyH_take (i := 12) (v := ?_) (by rfl) (by kernel_rfl) (by kernel_rfl) (by kernel_rfl) (by exact fun _ _ _ h => h) (Or.inl ⟨by rfl, ?_⟩) hHeld ?_
  rotate_left 1
  · intro w' hSw
    (try dsimp only at hSw)
    go_simp
    try with_reducible rfl
  try simp only [Act.put, List.setIfInBounds_toArray, List.set_cons_zero, List.set_cons_succ, List.getElem_toArray, List.getElem_cons_zero, List.getElem_cons_succ]
  refine wpAnyH_done (by kernel_rfl) ?_ _
  have hx5 := hHeld.2
  clear hHeld
  have HS5 := Lib.hid ((((HM.out.2.2.kept HB1.out).kept ((Below.refl _ _).drew)).kept hb5))
  have HENT := Lib.hid (enter_any h5 HS5.out HM.out.2.1 (by have := HM.out.1; simp; omega))
  have HCH : Hid (Chg (Own8 B R m) W w5) := Lib.hid (((Chg.of_below HB1.out).step Chg.drew).step (Chg.of_below hb5))
  clear h5 hb5 hbl5
  generalize (look M (g, n)).getD 0 = z
  go_wp2_with fail
  refine HENT.out.mono ?_
  rintro e w7 ⟨rfl, pv', h7⟩
  have HE : Hid (WSt B R m w7 (⟨.slice (some ⟨g, 0, none⟩) n c, k, 0, 0⟩ :: s :: path) pv' (upd M (g, n) 9223372036854775807) ∧ Chg (Own8 B R m) W w7) := Lib.hid ⟨h7.1, HCH.out.step h7.2⟩
  clear h7 HENT
  go_wp2_with fail
  go_end0
  exact ⟨rfl, _, HE.out⟩
end
end Go.Proofs.Ytgojipnhnmigpaa
