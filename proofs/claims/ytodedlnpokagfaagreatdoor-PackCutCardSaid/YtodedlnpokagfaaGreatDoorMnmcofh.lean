/- By program out of: PkRef, PkRef2, PkRef3. -/
import Derived.Test.YtodedlnpokagfaaGreatDoorMcdobkk
import Derived.Test.YtodedlnpokagfaaGreatDoorMhegnla
import Derived.Deep.RegionHeld3
/-
  Layer 4: the document's In: what it is in memory; take.
-/
set_option linter.unusedVariables false
set_option linter.unusedSimpArgs false
namespace Go.Proofs.YtodedlnpokagfaaGreatDoor
open Go.RowKit Rep

/-- Block x is the document's In in this state. -/
structure XAt (w : World) (x : Nat) (s : Pk.St) (a : Option Addr) (c : Nat) (B : List Nat) (at' : Nat) : Prop where
  blk : w.heap[x]? = some (.cells #[.slice a B.length c, .int .i64 (at' : Int), .bool s.isNone] 47 (0, 0))
  bytes : BytesAt w a c B
  low : LowB x a B
  le : at' ≤ B.length
  st : ∀ r, s = some r → r = B.drop at'
def XSt (w : World) (x : Nat) (s : Pk.St) : Prop := ∃ a c B at', XAt w x s a c B at'
section
variable {w w' : World} {x g : Nat} {s : Pk.St} {a : Option Addr} {c : Nat} {B : List Nat} {at' : Nat}
theorem XAt.no (h : XAt w x s a c B at') : NoByte w x := by
  intro off v e
  simp only [World.cell?, h.blk] at e
  rcases off with _ | _ | _ | off <;> simp at e
theorem XSt.no (h : XSt w x s) : NoByte w x := by obtain ⟨a, c, B, at', h⟩ := h; exact h.no
theorem XSt.lt (h : XSt w x s) : x < w.heap.size := by obtain ⟨a, c, B, at', h⟩ := h; exact (Array.getElem?_eq_some_iff.1 h.blk).1
theorem XAt.kept (h : XAt w x s a c B at') (hb : Below w.heap.size w w') : XAt w' x s a c B at' :=
  ⟨(hb.block _ (Array.getElem?_eq_some_iff.1 h.blk).1).trans h.blk, h.bytes.kept hb, h.low, h.le, h.st⟩
theorem XSt.kept (h : XSt w x s) (hb : Below w.heap.size w w') : XSt w' x s := by obtain ⟨a, c, B, at', h⟩ := h; exact ⟨a, c, B, at', h.kept hb⟩
theorem XSt.past (h : XSt w x s) (hn : NoByte w g) (hne : x ≠ g) (hb : w.grownBy w' (some g)) : XSt w' x s := by
  obtain ⟨a, c, B, at', h⟩ := h
  exact ⟨a, c, B, at', (hb.block _ (Array.getElem?_eq_some_iff.1 h.blk).1 (by simpa using hne)).trans h.blk, h.bytes.grown hn hb, h.low, h.le, h.st⟩
theorem XSt.newer (h : XSt w x s) (hne : x < g) (hb : w.grownBy w' (some g)) : XSt w' x s := by
  obtain ⟨a, c, B, at', h⟩ := h
  exact ⟨a, c, B, at', (hb.block _ (Array.getElem?_eq_some_iff.1 h.blk).1 (by simp; omega)).trans h.blk, h.bytes.newer h.low (by omega) hb, h.low, h.le, h.st⟩
theorem XSt.other {row : Option Nat} (h : XSt w x s) (hg : w.grownBy w' row) (hr : ∀ j, row = some j → x < j) : XSt w' x s := by
  cases row with
  | none => exact h.kept (below_of_grown hg)
  | some j => exact h.newer (hr j rfl) hg
theorem XAt.cells (h : XAt w x s a c B at') : w.cell? ⟨x, 0, none⟩ = some (.slice a B.length c) ∧ w.cell? ⟨x, 1, none⟩ = some (.int .i64 (at' : Int)) ∧ w.cell? ⟨x, 2, none⟩ = some (.bool s.isNone) ∧ w.frozen? ⟨x, 0, none⟩ = false ∧ w.frozen? ⟨x, 1, none⟩ = false ∧ w.frozen? ⟨x, 2, none⟩ = false := cells3 h.blk
theorem XAt.left (h : XAt w x s a c B at') : s.isNone = false → Pk.left s = B.length - at' := by
  intro e
  rcases s with _ | r
  · cases e
  · have := h.st r rfl
    subst this
    simp [Pk.left]
/-- It goes wrong. -/
theorem XAt.wrong (h : XAt w x s a c B at') : XSt (w.setCell ⟨x, 2, none⟩ (.bool true)) x none ∧ w.grownBy (w.setCell ⟨x, 2, none⟩ (.bool true)) (some x) := by
  have hg : w.grownBy (w.setCell ⟨x, 2, none⟩ (.bool true)) (some x) := grownBy_set (grown_refl w _)
  refine ⟨⟨a, c, B, at', ?_, h.bytes.grown h.no hg, h.low, h.le, fun r e => by cases e⟩, hg⟩
  have hb := h.blk
  simp only [World.setCell, Array.getElem?_modify, hb]
  simp
/-- It goes on. -/
theorem XAt.step (h : XAt w x s a c B at') {n : Nat} (hn : at' + n ≤ B.length) (hs : s.isNone = false) :
    XSt (w.setCell ⟨x, 1, none⟩ (.int .i64 ((at' : Int) + (n : Int)))) x (Pk.cutN n s) ∧ w.grownBy (w.setCell ⟨x, 1, none⟩ (.int .i64 ((at' : Int) + (n : Int)))) (some x) := by
  have hg : w.grownBy (w.setCell ⟨x, 1, none⟩ (.int .i64 ((at' : Int) + (n : Int)))) (some x) := grownBy_set (grown_refl w _)
  rcases s with _ | r
  · cases hs
  have hr := h.st r rfl
  subst hr
  have hle : n ≤ (B.drop at').length := by simp; omega
  have hc : Pk.cutN n (some (B.drop at')) = some (B.drop (at' + n)) := by
    unfold Pk.cutN; dsimp only; rw [if_pos hle, List.drop_drop]
  rw [hc]
  refine ⟨⟨a, c, B, at' + n, ?_, h.bytes.grown h.no hg, h.low, hn, fun r e => by cases e; rfl⟩, hg⟩
  have hb := h.blk
  simp only [World.setCell, Array.getElem?_modify, hb]
  simp
end
/-- A call on the document's In gives a value; the In is in this state then, and nothing else has changed. -/
def XTakes (x : Nat) (v : Value) (s : Pk.St) (w : World) (e : Ending) (w' : World) : Prop := e = .returned v ∧ Hid (XSt w' x s) ∧ Hid (w.grownBy w' (some x))
/-- .. gives a list of one's own .. -/
def XTakesL (f : Nat → Value) (x : Nat) (bs : List Nat) (s : Pk.St) (w : World) (e : Ending) (w' : World) : Prop :=
  ∃ a c, e = .returned (.slice a bs.length c) ∧ Hid (Reads w' a (bs.map f)) ∧ Hid (bs.length ≤ c ∧ c ≤ maxLen) ∧ Hid (∀ j, blk a = some j → w.heap.size ≤ j) ∧ Hid (XSt w' x s) ∧ Hid (w.grownBy w' (some x))
theorem OwnR.start (E : TypeId) (f : Nat → Value) (w : World) : OwnR E f w.heap.size (w.alloc (.cells #[] E)) (some ⟨w.heap.size, 0, none⟩) 0 [] :=
  ⟨by simp [maxLen], .inr ⟨_, rfl, Nat.le_refl _, #[], heap_alloc_new w _, rfl, by simp, by simp⟩⟩
theorem BytesAt.part {w : World} {p : Addr} {c k n : Nat} {bs : List Nat} (h : BytesAt w (some p) c bs) (hk : k + n ≤ bs.length) : BytesAt w (some (p.add k)) (c - k) ((bs.drop k).take n) := by
  have := (h.drop (k := k) (by omega))
  have h2 := this.take (k := n) (by simp; omega)
  exact ⟨h2.reads, h2.byt, by have := h.le; simp; omega, by have := h.cap; omega, h2.len⟩
theorem BytesAt.sub {w : World} {a : Option Addr} {c k n : Nat} {bs : List Nat} (h : BytesAt w a c bs) (hk : k + n ≤ bs.length) : Reads w (if c = k then a else Option.map (fun x => x.add k) a) (((bs.drop k).take n).map u8v) := by
  by_cases hn : n = 0
  · subst hn; exact .inl (by simp)
  · have hc : c ≠ k := by have := h.le; omega
    rw [if_neg hc]
    rcases a with _ | p
    · rcases h.reads with h0 | ⟨_, _, h0, _⟩
      · have : bs = [] := by simpa using h0
        subst this; simp at hk; omega
      · cases h0
    · exact (h.part hk).reads
/-- What take leaves behind. -/
theorem xtake_end {w w2 : World} {x n : Nat} {s : Pk.St} {a : Option Addr} {c : Nat} {B : List Nat} {at' : Nat} (h : XAt w x s a c B at') (hs : s.isNone = false) (hn : at' + n ≤ B.length) {a' : Option Addr} {c' : Nat} {E : TypeId} {o : Obj}
    (hown : OwnR E u8v w.heap.size w2 a' c' ([] ++ (B.drop at').take n)) (hg : (w.alloc o).grownBy w2 (some w.heap.size)) :
    XTakesL u8v x (Pk.cutV n s) (Pk.cutN n s) w (.returned (.slice a' (0 + n) c')) (w2.setCell ⟨x, 1, none⟩ (.int .i64 ((at' : Int) + (n : Int)))) := by
  have hx := (Array.getElem?_eq_some_iff.1 h.blk).1
  have hb : Below w.heap.size w w2 := ((Below.refl w.heap.size w).alloc (Nat.le_refl _) o).grown hg (by simp) (fun j e => by cases e; exact Nat.le_refl _)
  have h2 := (h.kept hb).step hn hs
  have hl := h.left hs
  have hv : Pk.cutV n s = (B.drop at').take n := by
    rcases s with _ | r
    · cases hs
    · have := h.st r rfl
      subst this
      unfold Pk.cutV; dsimp only
      rw [if_pos (by simp; omega)]
  have hlen : ((B.drop at').take n).length = n := by simp; omega
  rw [List.nil_append] at hown
  have hown2 := hown.grown h2.2 (by
    cases a' with
    | none => exact .inl rfl
    | some p => exact .inr fun e => by have := hown.blkB x e; omega)
  refine ⟨a', c', by rw [hv, hlen, Nat.zero_add], Lib.hid (by rw [hv]; exact hown2.reads), Lib.hid (by rw [hv]; exact ⟨hown2.le, hown2.1⟩), Lib.hid (fun j e => hown.blkB j e), Lib.hid h2.1, Lib.hid ?_⟩
  exact grownBy_trans_new (grown_of_below hb _) h2.2
theorem XTakesL.after {f : Nat → Value} {x : Nat} {bs : List Nat} {s : Pk.St} {w w1 : World} {e : Ending} {w' : World} (h : XTakesL f x bs s w1 e w') (hb : Below w.heap.size w w1) : XTakesL f x bs s w e w' := by
  obtain ⟨a, c, h1, h2, h3, h4, h5, h6⟩ := h
  exact ⟨a, c, h1, h2, h3, Lib.hid (fun j e => by have := h4.out j e; have := hb.size; omega), h5, Lib.hid (grownBy_trans_new (grown_of_below hb _) h6.out)⟩

set_option maxRecDepth 100000 in
set_option maxHeartbeats 4000000 in
theorem xtake_no {w : World} {x n : Nat} {s : Pk.St} (h : XSt w x s) (hn : n ≤ 140737488355328) (hno : Pk.left s < n ∨ s.isNone = true) :
    Calls Tryz.prog 49 #[.pointer (some ⟨x, 0, none⟩), .int .i64 (n : Int)] w (XTakesL u8v x [] none w) := by
  obtain ⟨a, c, B, at', h⟩ := h
  obtain ⟨c0, c1, c2, f0, f1, f2⟩ := h.cells
  have HH := Lib.hid h
  have hle := h.le
  have hcl := h.bytes.le
  have hcc := h.bytes.len
  have HL := Lib.hid h.left
  have hd0 : decide ((n : Int) < 0) = false := decide_eq_false (by omega)
  clear h
  have HEND : Hid (∀ nq o, XTakesL u8v x [] none w (.returned (.slice (some ⟨w.heap.size, 0, none⟩) 0 0)) (((w.drewN nq).setCell ⟨x, 2, none⟩ (.bool true)).alloc (.cells #[] o))) := Lib.hid fun nq o => by
    have hb : Below w.heap.size w (w.drewN nq) := Below.drewN' (Below.refl _ _) nq
    have h2 := (HH.out.kept hb).wrong
    have hb3 := (Below.refl ((w.drewN nq).setCell ⟨x, 2, none⟩ (.bool true)).heap.size ((w.drewN nq).setCell ⟨x, 2, none⟩ (.bool true))).alloc (Nat.le_refl _) (.cells #[] o)
    refine ⟨_, _, rfl, Lib.hid (.inl rfl), Lib.hid ⟨Nat.le_refl _, by simp [maxLen]⟩, Lib.hid (fun j e => by cases e; exact Nat.le_refl _), Lib.hid (h2.1.kept hb3), Lib.hid ?_⟩
    exact grownBy_trans_new (grownBy_trans_new (grown_of_below hb _) h2.2) (grown_of_below hb3 _)
  cases hs : s.isNone
  case true =>
    rw [hs] at c2
    clear HL hs hno HH
    go_enter Tryz.func49, Tryz.ntmps49
    go_wp2_with fail
    go_quiet (fail)
    go_wp2_with fail
    go_ret
    exact HEND.out nq _
  case false =>
    rw [hs] at c2
    have hov : decide (((B.length : Int) - (at' : Int)) < (n : Int)) = true := decide_eq_true (by have := HL.out hs; rcases hno with h | h; omega; rw [hs] at h; cases h)
    clear HL hs hno HH
    go_enter Tryz.func49, Tryz.ntmps49
    go_wp2_with fail
    go_quiet (fail)
    go_wp2_with fail
    go_ret
    exact HEND.out nq _

set_option maxRecDepth 100000 in
set_option maxHeartbeats 8000000 in
theorem xtake_yes {w : World} {x n : Nat} {s : Pk.St} (h : XSt w x s) (hn : n ≤ Pk.left s) (hs : s.isNone = false) :
    Calls Tryz.prog 49 #[.pointer (some ⟨x, 0, none⟩), .int .i64 (n : Int)] w (XTakesL u8v x (Pk.cutV n s) (Pk.cutN n s) w) := by
  obtain ⟨a, c, B, at', h⟩ := h
  obtain ⟨c0, c1, c2, f0, f1, f2⟩ := h.cells
  have HH := Lib.hid h
  have hle := h.le
  have hcl := h.bytes.le
  have hcc := h.bytes.len
  have hl := h.left hs
  have hd0 : decide ((n : Int) < 0) = false := decide_eq_false (by omega)
  have hov : decide (((B.length : Int) - (at' : Int)) < (n : Int)) = false := decide_eq_false (by omega)
  have HS := Lib.hid hs
  rw [hs] at c2
  have hnl : at' + n ≤ B.length := by omega
  clear h hl hs hn
  go_enter Tryz.func49, Tryz.ntmps49
  go_wp2_with fail
  go_quiet (fail)
  go_wp2_with fail
  obtain ⟨w1, hw1⟩ : ∃ w1, w1 = w.drewN nq := ⟨_, rfl⟩
  have hb1 : Below w.heap.size w w1 := by rw [hw1]; exact Below.drewN' (Below.refl _ _) nq
  rw [← hw1]
  have HW1 := Lib.hid hw1
  have HH1 := Lib.hid (HH.out.kept hb1)
  have HB1 := Lib.hid hb1
  clear hw1 hb1 HH c0 c1 c2 f0 f1 f2
  obtain ⟨c0, c1, c2, f0, f1, f2⟩ := HH1.out.cells
  have hadd : IntKind.i64.wrap ((at' : Int) + (n : Int)) = (at' : Int) + (n : Int) := IntWalk.i64_in _ (by omega)
  have hge : 0 ≤ (at' : Int) + (n : Int) := by omega
  have htn : ((at' : Int) + (n : Int)).toNat = at' + n := by omega
  have hcn : (at' : Int) + (n : Int) ≤ (c : Int) := by omega
  obtain ⟨p2, hif⟩ : ∃ p2, (if c = at' then a else Option.map (fun x => x.add at') a) = p2 := ⟨_, rfl⟩
  have HLN : Hid (((B.drop at').take n).length = n) := Lib.hid (by simp; omega)
  have HRD : Hid (Reads (w1.drew.alloc (.cells #[] 5)) p2 (((B.drop at').take n).map u8v)) := Lib.hid (by
    rw [← hif]
    exact ((HH1.out.bytes.sub hnl).kept (below_drew w1)).kept ((Below.refl _ _).alloc (Nat.le_refl _) _))
  have HC0 : Hid ((w1.drew.alloc (.cells #[] 5)).cell? ⟨x, 0, none⟩ = some (.slice a B.length c) ∧ (w1.drew.alloc (.cells #[] 5)).cell? ⟨x, 1, none⟩ = some (.int .i64 (at' : Int))) := Lib.hid (by
    have := (HH1.out.kept (below_drew w1)).kept ((Below.refl _ _).alloc (Nat.le_refl _) (.cells #[] 5))
    exact ⟨this.cells.1, this.cells.2.1⟩)
  have HC1 : Hid (∀ w6, (w1.drew.alloc (.cells #[] 5)).grownBy w6 (some w1.drew.heap.size) → w6.cell? ⟨x, 0, none⟩ = some (.slice a B.length c) ∧ w6.cell? ⟨x, 1, none⟩ = some (.int .i64 (at' : Int))) := Lib.hid fun w6 hg => by
    have hxl : x < w1.heap.size := (Array.getElem?_eq_some_iff.1 HH1.out.blk).1
    exact ⟨hg.cell HC0.out.1 (by simp; have : w1.drew.heap.size = w1.heap.size := rfl; omega), hg.cell HC0.out.2 (by simp; have : w1.drew.heap.size = w1.heap.size := rfl; omega)⟩
  refine wp_region_held_drew (S := (fun w' => w'.cell? ⟨x, 0, none⟩ = some (.slice a B.length c) ∧ w'.cell? ⟨x, 1, none⟩ = some (.int .i64 (at' : Int)))) (by kernel_rfl) ?_ (fun hHeld => ?_)
  · exact ⟨c0, c1⟩
  refine wpAnyH_take (i := 1) (v := ?_) (by rfl) (by kernel_rfl) (by kernel_rfl) (by kernel_rfl) (by exact fun _ _ _ h => h) (Or.inl ⟨by rfl, ?_⟩) hHeld ?_
  rotate_left 1
  · intro w' hSw
    go_simp
    try with_reducible rfl
  try simp only [Act.put, List.setIfInBounds_toArray, List.set_cons_zero, List.set_cons_succ, List.getElem_toArray, List.getElem_cons_zero, List.getElem_cons_succ]
  refine wpAnyH_take (i := 2) (v := ?_) (by rfl) (by kernel_rfl) (by kernel_rfl) (by kernel_rfl) (by exact fun _ _ _ h => h) (Or.inl ⟨by rfl, ?_⟩) hHeld ?_
  rotate_left 1
  · intro w' hSw
    go_simp
    try with_reducible rfl
  try simp only [Act.put, List.setIfInBounds_toArray, List.set_cons_zero, List.set_cons_succ, List.getElem_toArray, List.getElem_cons_zero, List.getElem_cons_succ]
  refine wpAnyH_take (i := 3) (v := ?_) (by rfl) (by kernel_rfl) (by kernel_rfl) (by kernel_rfl) (by exact fun _ _ _ h => h) (Or.inl ⟨by rfl, ?_⟩) hHeld ?_
  rotate_left 1
  · intro w' hSw
    go_simp
    try with_reducible rfl
  try simp only [Act.put, List.setIfInBounds_toArray, List.set_cons_zero, List.set_cons_succ, List.getElem_toArray, List.getElem_cons_zero, List.getElem_cons_succ]
  refine wpAnyH_take (i := 4) (v := ?_) (by rfl) (by kernel_rfl) (by kernel_rfl) (by kernel_rfl) (by exact fun _ _ _ h => h) (Or.inl ⟨by rfl, ?_⟩) hHeld ?_
  rotate_left 1
  · intro w' hSw
    go_simp
    try with_reducible rfl
  try simp only [Act.put, List.setIfInBounds_toArray, List.set_cons_zero, List.set_cons_succ, List.getElem_toArray, List.getElem_cons_zero, List.getElem_cons_succ]
  refine wpAnyH_take (i := 5) (v := ?_) (by rfl) (by kernel_rfl) (by kernel_rfl) (by kernel_rfl) (by exact fun _ _ _ h => h) (Or.inl ⟨by rfl, ?_⟩) hHeld ?_
  rotate_left 1
  · intro w' hSw
    go_simp
    try with_reducible rfl
  try simp only [Act.put, List.setIfInBounds_toArray, List.set_cons_zero, List.set_cons_succ, List.getElem_toArray, List.getElem_cons_zero, List.getElem_cons_succ]
  refine wpAnyH_take (i := 6) (v := ?_) (by rfl) (by kernel_rfl) (by kernel_rfl) (by kernel_rfl) (by exact fun _ _ _ h => h) (Or.inl ⟨by rfl, ?_⟩) hHeld ?_
  rotate_left 1
  · intro w' hSw
    go_simp
    try with_reducible rfl
  try simp only [Act.put, List.setIfInBounds_toArray, List.set_cons_zero, List.set_cons_succ, List.getElem_toArray, List.getElem_cons_zero, List.getElem_cons_succ]
  refine wpAnyH_take (i := 7) (v := ?_) (by rfl) (by kernel_rfl) (by kernel_rfl) (by kernel_rfl) (by exact fun _ _ _ h => h) (Or.inl ⟨by rfl, ?_⟩) hHeld ?_
  rotate_left 1
  · intro w' hSw
    go_simp
    try with_reducible rfl
  try simp only [Act.put, List.setIfInBounds_toArray, List.set_cons_zero, List.set_cons_succ, List.getElem_toArray, List.getElem_cons_zero, List.getElem_cons_succ]
  refine wpAnyH_take (i := 8) (v := ?_) (by rfl) (by kernel_rfl) (by kernel_rfl) (by kernel_rfl) (by exact fun _ _ _ h => h) (Or.inl ⟨by rfl, ?_⟩) hHeld ?_
  rotate_left 1
  · intro w' hSw
    go_simp
    try with_reducible rfl
  try simp only [Act.put, List.setIfInBounds_toArray, List.set_cons_zero, List.set_cons_succ, List.getElem_toArray, List.getElem_cons_zero, List.getElem_cons_succ]
  refine wpAnyH_take (i := 9) (v := ?_) (by rfl) (by kernel_rfl) (by kernel_rfl) (by kernel_rfl) (by exact fun _ _ _ h => h) (Or.inl ⟨by rfl, ?_⟩) hHeld ?_
  rotate_left 1
  · intro w' hSw
    go_simp
    try with_reducible rfl
  try simp only [Act.put, List.setIfInBounds_toArray, List.set_cons_zero, List.set_cons_succ, List.getElem_toArray, List.getElem_cons_zero, List.getElem_cons_succ]
  refine wpAnyH_take (i := 10) (v := ?_) (by rfl) (by kernel_rfl) (by kernel_rfl) (by kernel_rfl) (by exact fun _ _ _ h => h) (Or.inl ⟨by rfl, ?_⟩) hHeld ?_
  rotate_left 1
  · intro w' hSw
    go_simp
    try with_reducible rfl
  try simp only [Act.put, List.setIfInBounds_toArray, List.set_cons_zero, List.set_cons_succ, List.getElem_toArray, List.getElem_cons_zero, List.getElem_cons_succ]
  refine wpAnyH_take (i := 11) (v := ?_) (by rfl) (by kernel_rfl) (by kernel_rfl) (by kernel_rfl) (by exact fun _ _ _ h => h) (Or.inl ⟨by rfl, ?_⟩) hHeld ?_
  rotate_left 1
  · intro w' hSw
    go_simp
    try with_reducible rfl
  try simp only [Act.put, List.setIfInBounds_toArray, List.set_cons_zero, List.set_cons_succ, List.getElem_toArray, List.getElem_cons_zero, List.getElem_cons_succ]
  refine wpAnyH_take (i := 12) (v := ?_) (by rfl) (by kernel_rfl) (by kernel_rfl) (by kernel_rfl) (by exact fun _ _ _ h => h) (Or.inl ⟨by rfl, ?_⟩) hHeld ?_
  rotate_left 1
  · intro w' hSw
    go_simp
    try with_reducible rfl
  try simp only [Act.put, List.setIfInBounds_toArray, List.set_cons_zero, List.set_cons_succ, List.getElem_toArray, List.getElem_cons_zero, List.getElem_cons_succ]
  refine wpAnyH_take (i := 13) (v := ?_) (by rfl) (by kernel_rfl) (by kernel_rfl) (by kernel_rfl) (by exact fun _ _ _ h => h) (Or.inl ⟨by rfl, ?_⟩) hHeld ?_
  rotate_left 1
  · intro w' hSw
    go_simp
    try with_reducible rfl
  try simp only [Act.put, List.setIfInBounds_toArray, List.set_cons_zero, List.set_cons_succ, List.getElem_toArray, List.getElem_cons_zero, List.getElem_cons_succ]
  refine wpAnyH_take (i := 14) (v := ?_) (by rfl) (by kernel_rfl) (by kernel_rfl) (by kernel_rfl) (by exact fun _ _ _ h => h) (Or.inl ⟨by rfl, ?_⟩) hHeld ?_
  rotate_left 1
  · intro w' hSw
    go_simp
    try with_reducible rfl
  try simp only [Act.put, List.setIfInBounds_toArray, List.set_cons_zero, List.set_cons_succ, List.getElem_toArray, List.getElem_cons_zero, List.getElem_cons_succ]
  refine wpAnyH_take (i := 15) (v := ?_) (by rfl) (by kernel_rfl) (by kernel_rfl) (by kernel_rfl) (by exact fun _ _ _ h => h) (Or.inl ⟨by rfl, ?_⟩) hHeld ?_
  rotate_left 1
  · intro w' hSw
    go_simp
    try with_reducible rfl
  try simp only [Act.put, List.setIfInBounds_toArray, List.set_cons_zero, List.set_cons_succ, List.getElem_toArray, List.getElem_cons_zero, List.getElem_cons_succ]
  refine wpAnyH_ready (rs := [0]) (by kernel_rfl) (by simp) ?_
  refine AllReadyH.cons (by rfl) (fun K hK => ?_) AllReadyH.nil
  go_simp
  refine hK.out _ _ ?_ (fun hHeld => ?_)
  · exact ⟨HC0.out.1, HC0.out.2⟩
  clear hK K
  try simp only [Act.put, List.setIfInBounds_toArray, List.set_cons_zero, List.set_cons_succ, List.getElem_toArray, List.getElem_cons_zero, List.getElem_cons_succ]
  refine wpAnyH_ready (rs := [16]) (by kernel_rfl) (by simp) ?_
  refine AllReadyH.cons (by rfl) (fun K hK => ?_) AllReadyH.nil
  refine step_append_row rfl (.tmp 32) (.tmp 47) 29 rfl 5 (.int .u8 0) 1 Tryz.underlying29 info_u8 rfl u8v u8_one w1.drew.heap.size (some ⟨w1.drew.heap.size, 0, none⟩) 0 0 [] rfl (OwnR.start _ _ _) rfl p2 n (c - at') ((B.drop at').take n) rfl HLN.out HRD.out (by unfold maxLen; omega) (by omega) (by simp) ?_
  intro a' c' w6 hown hgrw hnew
  refine hK.out _ _ ?_ (fun hHeld => ?_)
  · exact HC1.out _ hgrw
  clear hK K
  try simp only [Act.put, List.setIfInBounds_toArray, List.set_cons_zero, List.set_cons_succ, List.getElem_toArray, List.getElem_cons_zero, List.getElem_cons_succ]
  refine wpAnyH_take (i := 17) (v := ?_) (by rfl) (by kernel_rfl) (by kernel_rfl) (by kernel_rfl) (by exact fun _ _ _ h => h) (Or.inl ⟨by rfl, ?_⟩) hHeld ?_
  rotate_left 1
  · intro w' hSw
    go_simp
    try with_reducible rfl
  try simp only [Act.put, List.setIfInBounds_toArray, List.set_cons_zero, List.set_cons_succ, List.getElem_toArray, List.getElem_cons_zero, List.getElem_cons_succ]
  refine wpAnyH_done (by kernel_rfl) ?_ _
  clear hHeld
  have hb6 : Below w1.drew.heap.size w1.drew w6 := ((Below.refl w1.drew.heap.size w1.drew).alloc (Nat.le_refl _) _).grown hgrw (by simp) (fun j e => by cases e; exact Nat.le_refl _)
  have HX6 := Lib.hid ((xtake_end (HH1.out.kept (below_drew w1)) HS.out hnl hown hgrw).after (HB1.out.trans ((below_drew w1).mono HB1.out.size)))
  obtain ⟨c0, c1, c2, f0, f1, f2⟩ := ((HH1.out.kept (below_drew w1)).kept hb6).cells
  clear hown hgrw hnew hb6 HH1 HC0 HC1 HRD HLN
  go_wp2_with fail
  go_ret
  rw [Nat.zero_add] at HX6
  exact HX6.out
end Go.Proofs.YtodedlnpokagfaaGreatDoor


/-
  Layer 4: the document's In: Done, Int, Flag, Count, Bytes.
-/
set_option linter.unusedVariables false
set_option linter.unusedSimpArgs false
namespace Go.Proofs.YtodedlnpokagfaaGreatDoor
open Go.RowKit Rep

/-- A call gives a value; what there was is as it was. -/
def GivesX (v : Value) (w : World) (e : Ending) (w' : World) : Prop := e = .returned v ∧ Hid (Below w.heap.size w w')
theorem xtake_any {w : World} {x n : Nat} {s : Pk.St} (h : XSt w x s) (hn : n ≤ 140737488355328) :
    Calls Tryz.prog 49 #[.pointer (some ⟨x, 0, none⟩), .int .i64 (n : Int)] w (XTakesL u8v x (Pk.cutV n s) (Pk.cutN n s) w) := by
  by_cases hno : Pk.left s < n ∨ s.isNone = true
  · have e : Pk.cutN n s = none ∧ Pk.cutV n s = [] := by
      rcases hno with h1 | h1
      · exact cut_over h1
      · cases s with
        | none => exact ⟨rfl, rfl⟩
        | some r => cases h1
    rw [e.1, e.2]
    exact xtake_no h hn hno
  · rw [not_or] at hno
    exact xtake_yes h (by omega) (Bool.eq_false_iff.2 hno.2)
theorem xst_byt {w : World} {x : Nat} {s : Pk.St} (h : XSt w x s) : ∀ r, s = some r → Pk.Byt r := by
  obtain ⟨a, c, B, at', h⟩ := h
  intro r e
  rw [h.st r e]
  exact h.bytes.byt.drop _
theorem xval_lt {k : Nat} {s : Pk.St} {w : World} {x : Nat} (h : XSt w x s) (hk : k ≤ 8) : Pk.val (Pk.cutV k s) < 18446744073709551616 := by
  have h1 := Pk.val_lt (Pk.cutV_byt (k := k) (xst_byt h))
  have h2 := Pk.cutV_len k s
  have h3 : (256 : Nat) ^ (Pk.cutV k s).length ≤ 256 ^ 8 := Nat.pow_le_pow_right (by omega) (by omega)
  have h4 : (256 : Nat) ^ 8 = 18446744073709551616 := by decide
  omega

set_option maxRecDepth 100000 in
set_option maxHeartbeats 1600000 in
theorem XInt_any {w : World} {x : Nat} {s : Pk.St} (h : XSt w x s) : Calls Tryz.prog 28 #[.pointer (some ⟨x, 0, none⟩)] w (XTakes x (.int .i64 (Pk.intV s)) (Pk.intN s) w) := by
  have HC := Lib.hid (xtake_any h (n := ((8 : Nat))) (by omega))
  have hlen := Pk.cutV_len 8 s
  have HV : Hid (Pk.val (Pk.cutV 8 s) < 18446744073709551616) := Lib.hid (xval_lt h (by omega))
  have HBY : Hid (Pk.Byt (Pk.cutV 8 s)) := Lib.hid (Pk.cutV_byt (xst_byt h))
  unfold Pk.intV Pk.intN
  clear h
  generalize Pk.cutV 8 s = bs at *
  generalize Pk.cutN 8 s = s' at *
  go_enter Tryz.func28, Tryz.ntmps28
  go_wp2_with fail
  refine HC.out.mono ?_
  rintro e w1 ⟨a, c, rfl, G0, G1, G2, G3, G4⟩
  clear HC
  have hcl := G1.out.1
  have hcm := G1.out.2
  unfold maxLen at hcm
  go_wp2_with fail
  go_loop [4, 5] (fun nv iv => ∃ j : Nat, j ≤ bs.length ∧ iv = .int .i64 j ∧ nv = .int .u64 (Pk.val (bs.take j) : Int)) (fun _ iv => bs.length - (intOf iv).toNat)
  case atStart => exact ⟨0, Nat.zero_le _, rfl, rfl⟩
  case round =>
    obtain ⟨j, hj, rfl, rfl⟩ := hrel
    by_cases hlt : j < bs.length
    · obtain ⟨g, off, rfl, hg, hcell⟩ := G0.out.open' (by rw [List.length_map]; omega)
      have hck := hcell j _ (map_getElem? (xs := bs) hlt)
      have HT := Lib.hid (val_take hlt)
      have hb := byt_getD HBY.out j
      have hv := val_small HBY.out (j := j) (by omega)
      unfold u8v at hck
      clear hcell
      generalize Pk.val (bs.take j) = v at *
      generalize bs.getD j 0 = b at *
      go_wp2_with fail
      go_round
      case rel => exact ⟨j + 1, by omega, by go_num, by rw [HT.out]; congr 1; omega⟩
      case measure => simp [intOf]; omega
    · obtain rfl : j = bs.length := by omega
      rw [List.take_length]
      go_wp2_with fail
      go_ret
      exact ⟨by rw [iN_wrap HV.out]; rfl, G3, G4⟩

set_option maxRecDepth 100000 in
set_option maxHeartbeats 1600000 in
theorem XDone_any {w : World} {x : Nat} {s : Pk.St} (h : XSt w x s) : Calls Tryz.prog 13 #[.pointer (some ⟨x, 0, none⟩)] w (GivesX (.int .i64 (doneV s)) w) := by
  obtain ⟨a, c, B, at', h⟩ := h
  obtain ⟨c0, c1, c2, f0, f1, f2⟩ := h.cells
  have hle := h.le
  have hcl := h.bytes.le
  have hcc := h.bytes.len
  have HL := Lib.hid h.left
  have HD : Hid (∀ nq, Below w.heap.size w (w.drewN nq)) := Lib.hid fun nq => Below.drewN' (Below.refl _ _) nq
  clear h
  cases hs : s.isNone
  case true =>
    rw [hs] at c2
    have HV : Hid (doneV s = 3) := Lib.hid (by unfold doneV; rw [hs, if_pos (.inl rfl)])
    clear HL hs
    go_enter Tryz.func13, Tryz.ntmps13
    go_wp2_with fail
    go_quiet (fail)
    go_wp2_with fail
    go_ret
    exact ⟨by rw [HV.out]; rfl, Lib.hid (HD.out nq)⟩
  case false =>
    rw [hs] at c2
    have hl := HL.out hs
    by_cases hlt : at' < B.length
    · have hd : decide (at' < B.length) = true := decide_eq_true hlt
      have HV : Hid (doneV s = 3) := Lib.hid (by unfold doneV; rw [hs, if_pos (.inr (by omega))])
      clear HL hs hl
      go_enter Tryz.func13, Tryz.ntmps13
      go_wp2_with fail
      go_quiet (fail)
      go_wp2_with fail
      go_ret
      exact ⟨by rw [HV.out]; rfl, Lib.hid (HD.out nq)⟩
    · have hd : decide (at' < B.length) = false := decide_eq_false hlt
      have HV : Hid (doneV s = 0) := Lib.hid (by unfold doneV; rw [hs, if_neg (by simp; omega)])
      clear HL hs hl
      go_enter Tryz.func13, Tryz.ntmps13
      go_wp2_with fail
      go_quiet (fail)
      go_wp2_with fail
      go_ret
      exact ⟨by rw [HV.out]; rfl, Lib.hid (HD.out nq)⟩

set_option maxRecDepth 100000 in
set_option maxHeartbeats 1600000 in
theorem XFlag_any {w : World} {x : Nat} {s : Pk.St} (h : XSt w x s) : Calls Tryz.prog 30 #[.pointer (some ⟨x, 0, none⟩)] w (XTakes x (.bool (Pk.flagV s)) (Pk.flagN s) w) := by
  have HC := Lib.hid (xtake_any h (n := ((1 : Nat))) (by omega))
  have HBY : Hid (Pk.Byt (Pk.cutV 1 s)) := Lib.hid (Pk.cutV_byt (xst_byt h))
  have hlen := Pk.cutV_len 1 s
  unfold Pk.flagV Pk.flagN
  clear h
  generalize Pk.cutV 1 s = bs at *
  generalize Pk.cutN 1 s = s' at *
  rcases bs with _ | ⟨b, _ | ⟨b', bs⟩⟩
  · have HV : Hid (decide (Pk.val [] = 1) = false ∧ (if Pk.val [] ≤ 1 then s' else none) = s') := Lib.hid ⟨by decide, by rw [if_pos (by decide)]⟩
    obtain ⟨d, hd⟩ : ∃ d, d = decide (Pk.val [] = 1) := ⟨_, rfl⟩
    rw [HV.out.2, HV.out.1]
    clear HV hd
    go_enter Tryz.func30, Tryz.ntmps30
    go_wp2_with fail
    refine HC.out.mono ?_
    rintro e w1 ⟨a, c, rfl, G0, G1, G2, G3, G4⟩
    clear HC
    go_wp2_with fail
    go_ret
    exact ⟨rfl, G3, G4⟩
  · have HE : Hid (Pk.val [b] = b) := Lib.hid (by simp [Pk.val])
    have hb : b < 256 := HBY.out b (by simp)
    rw [HE.out]
    by_cases hv : b ≤ 1
    · have hd : decide ((1 : Int) < (b : Int)) = false := decide_eq_false (by omega)
      rw [if_pos hv]
      go_enter Tryz.func30, Tryz.ntmps30
      go_wp2_with fail
      refine HC.out.mono ?_
      rintro e w1 ⟨a, c, rfl, G0, G1, G2, G3, G4⟩
      clear HC
      obtain ⟨g, off, rfl, hg, hcell⟩ := G0.out.open' (by simp)
      have hck := hcell 0 _ (map_getElem? (xs := [b]) (f := u8v) (by simp))
      have hcl := G1.out.1
      simp only [List.length_cons, List.length_nil, Nat.zero_add] at hcl
      unfold u8v at hck
      simp only [List.getD_cons_zero, Nat.add_zero] at hck
      clear hcell
      go_wp2_with fail
      go_ret
      exact ⟨by rw [← beq_dec]; rfl, G3, G4⟩
    · have hd : decide ((1 : Int) < (b : Int)) = true := decide_eq_true (by omega)
      have HX : Hid (decide (b = 1) = false) := Lib.hid (decide_eq_false (by omega))
      rw [if_neg hv, HX.out]
      have he : ((b : Int) == 1) = false := by rw [beq_dec, HX.out]
      clear HX
      go_enter Tryz.func30, Tryz.ntmps30
      go_wp2_with fail
      refine HC.out.mono ?_
      rintro e w1 ⟨a, c, rfl, G0, G1, G2, G3, G4⟩
      clear HC
      obtain ⟨g, off, rfl, hg, hcell⟩ := G0.out.open' (by simp)
      have hck := hcell 0 _ (map_getElem? (xs := [b]) (f := u8v) (by simp))
      have hcl := G1.out.1
      simp only [List.length_cons, List.length_nil, Nat.zero_add] at hcl
      unfold u8v at hck
      simp only [List.getD_cons_zero, Nat.add_zero] at hck
      obtain ⟨xa, xc, B, at', hx⟩ := G3.out
      obtain ⟨c0, c1, c2, f0, f1, f2⟩ := hx.cells
      have HW := Lib.hid hx.wrong
      have hgx : g ≠ x := fun e => by subst e; exact hx.no _ _ hck
      clear hcell hx
      go_wp2_with fail
      go_ret
      exact ⟨rfl, Lib.hid HW.out.1, Lib.hid (grownBy_trans_new G4.out HW.out.2)⟩
  · simp at hlen
end Go.Proofs.YtodedlnpokagfaaGreatDoor


/-
  Layer 4: the document's In: Count, Bytes.
-/
set_option linter.unusedVariables false
set_option linter.unusedSimpArgs false
namespace Go.Proofs.YtodedlnpokagfaaGreatDoor
open Go.RowKit Rep

theorem xintV_le {s : Pk.St} {w : World} {x : Nat} (h : XSt w x s) : -9223372036854775808 ≤ Pk.intV s ∧ Pk.intV s ≤ 9223372036854775807 := by
  have h1 := xval_lt h (k := 8) (by omega)
  exact ⟨Pk.iN_ge h1, Pk.iN_le h1⟩
theorem intV_none {s : Pk.St} (h : Pk.intN s = none) : Pk.intV s = 0 := by
  unfold Pk.intN at h
  unfold Pk.intV
  rcases s with _ | r
  · rfl
  · unfold Pk.cutN at h
    unfold Pk.cutV
    dsimp only at h ⊢
    split at h
    · cases h
    · rename_i h8; rw [if_neg h8]; rfl

set_option maxRecDepth 100000 in
set_option maxHeartbeats 4000000 in
theorem XCount_any {w : World} {x : Nat} {s : Pk.St} {m : Int} (h : XSt w x s) (hm : -9223372036854775808 ≤ m ∧ m ≤ 9223372036854775807) : Calls Tryz.prog 39 #[.pointer (some ⟨x, 0, none⟩), .int .i64 m] w (XTakes x (.int .i64 (Pk.countV m s : Int)) (Pk.countN m s) w) := by
  have HC := Lib.hid (XInt_any h)
  have hb := xintV_le h
  have HZ := Lib.hid (@intV_none s)
  unfold Pk.countV Pk.countN Pk.countOK
  clear h
  generalize Pk.intV s = v at *
  generalize Pk.intN s = s' at *
  obtain ⟨v1, v2⟩ := hb
  obtain ⟨m1, m2⟩ := hm
  obtain ⟨M, hM⟩ : ∃ M : Nat, max m 1 = (M : Int) := ⟨(max m 1).toNat, by omega⟩
  have hM1 : 1 ≤ (M : Int) := by omega
  have hM0 : (max m 1).toNat = M := by omega
  rw [hM0]
  have HMM : Hid ((m < 1 → (1 : Int) = M) ∧ (¬ m < 1 → m = M)) := Lib.hid ⟨fun h => by omega, fun h => by omega⟩
  have HW : Hid (∀ n : Nat, n ≤ 140737488355328 → wrap64 ((n : Int) / (M : Int)) = ((n / M : Nat) : Int)) := Lib.hid fun n hn => by
    have h1 : n / M ≤ n := Nat.div_le_self _ _
    rw [← Int.natCast_ediv]
    generalize n / M = q at *
    exact IntWalk.wrap64_in _ ⟨by omega, by omega⟩
  clear hM hM0
  have KEY : ∀ (cv : Nat) (cs : Pk.St), cv = (if decide (0 ≤ v ∧ v ≤ ((Pk.left s' / M : Nat) : Int)) then v.toNat else 0) → cs = (if decide (0 ≤ v ∧ v ≤ ((Pk.left s' / M : Nat) : Int)) then s' else none) →
      Calls Tryz.prog 39 #[.pointer (some ⟨x, 0, none⟩), .int .i64 m] w (XTakes x (.int .i64 (cv : Int)) cs w) := by
    intro cv cs hcv hcs
    have HCV := Lib.hid (And.intro hcv hcs)
    clear hcv hcs
    by_cases hm1 : m < 1
    all_goals
      first
        | (have hdm : decide (m < 1) = true := decide_eq_true hm1
           have e1 : (1 : Int) = M := HMM.out.1 hm1
           obtain rfl : M = 1 := by omega
           clear e1
           generalize hMM : (1 : Nat) = M' at HCV HW)
        | (have hdm : decide (m < 1) = false := decide_eq_false hm1
           obtain rfl : m = (M : Int) := HMM.out.2 hm1
           have hMM := hM1)
      clear HMM
      go_enter Tryz.func39, Tryz.ntmps39
      go_wp2_with fail
      refine HC.out.mono ?_
      rintro e w1 ⟨rfl, G1, G2⟩
      clear HC
      obtain ⟨a, c, B, at', hx⟩ := G1.out
      obtain ⟨c0, c1, c2, f0, f1, f2⟩ := hx.cells
      have hle := hx.le
      have hcl := hx.bytes.le
      have hcc := hx.bytes.len
      have HL := Lib.hid hx.left
      have HX := Lib.hid (fun nq => (hx.kept (Below.drewN' (Below.refl w1.heap.size w1) nq)).wrong)
      have HDN : Hid (∀ nq, Below w1.heap.size w1 (w1.drewN nq)) := Lib.hid fun nq => Below.drewN' (Below.refl _ _) nq
      have HSN := Lib.hid G1.out
      clear hx G1
      cases hs : s'.isNone
      case true =>
        rw [hs] at c2
        have HE : Hid (cv = 0 ∧ cs = none) := Lib.hid (by
          obtain rfl : s' = none := by simpa using hs
          have h0 := HZ.out rfl
          obtain ⟨h1, h2⟩ := HCV.out
          rw [h1, h2, h0]
          exact ⟨by split <;> rfl, by split <;> rfl⟩)
        obtain ⟨rfl, rfl⟩ := HE.out
        clear hs HE HCV HL HW hMM
        go_wp2_with fail
        go_quiet (fail)
        go_wp2_with fail
        go_ret
        exact ⟨rfl, Lib.hid (HX.out nq).1, Lib.hid (grownBy_trans_new (grownBy_trans_new G2.out (grown_of_below (HDN.out nq) _)) (HX.out nq).2)⟩
      case false =>
        rw [hs] at c2
        have hl := HL.out hs
        have hw := HW.out (B.length - at') (by omega)
        have hsub : ((B.length : Int) - (at' : Int)) = ((B.length - at' : Nat) : Int) := by omega
        rw [hl] at HCV
        clear hl HL hs HW HZ
        generalize (B.length - at') = L at *
        by_cases h0 : v < 0
        · have hd : decide (v < 0) = true := decide_eq_true h0
          have HE : Hid (cv = 0 ∧ cs = none) := Lib.hid (by
            obtain ⟨h1, h2⟩ := HCV.out
            rw [decide_eq_false (by omega)] at h1 h2
            exact ⟨h1, h2⟩)
          obtain ⟨rfl, rfl⟩ := HE.out
          clear HE HCV hMM hw
          go_wp2_with fail
          go_quiet (fail)
          go_wp2_with fail
          go_ret
          exact ⟨rfl, Lib.hid (HX.out nq).1, Lib.hid (grownBy_trans_new (grownBy_trans_new G2.out (grown_of_below (HDN.out nq) _)) (HX.out nq).2)⟩
        · have hd : decide (v < 0) = false := decide_eq_false h0
          first
            | (obtain ⟨q, hq⟩ : ∃ q : Nat, q = L / M' := ⟨_, rfl⟩
               rw [← hq] at HCV
               rw [← hMM, Nat.div_one] at hq
               subst hq
               clear hw hMM)
            | (obtain ⟨q, hq⟩ : ∃ q : Nat, q = L / M := ⟨_, rfl⟩
               rw [← hq] at HCV hw
               clear hq)
          rcases Int.lt_or_le (q : Int) v with hlt | hlt
          · have hdq : decide ((q : Int) < v) = true := decide_eq_true hlt
            have HE : Hid (cv = 0 ∧ cs = none) := Lib.hid (by
              obtain ⟨h1, h2⟩ := HCV.out
              rw [decide_eq_false (by omega)] at h1 h2
              exact ⟨h1, h2⟩)
            obtain ⟨rfl, rfl⟩ := HE.out
            clear HE HCV hlt
            go_wp2_with fail
            go_quiet (fail)
            go_wp2_with fail
            go_ret
            exact ⟨rfl, Lib.hid (HX.out nq).1, Lib.hid (grownBy_trans_new (grownBy_trans_new G2.out (grown_of_below (HDN.out nq) _)) (HX.out nq).2)⟩
          · have hdq : decide ((q : Int) < v) = false := decide_eq_false (by omega)
            have HE : Hid ((cv : Int) = v ∧ cs = s') := Lib.hid (by
              obtain ⟨h1, h2⟩ := HCV.out
              rw [decide_eq_true (by omega)] at h1 h2
              exact ⟨by rw [h1]; simp; omega, h2⟩)
            clear HCV hlt
            go_wp2_with fail
            go_quiet (fail)
            go_wp2_with fail
            go_ret
            exact ⟨by rw [HE.out.1]; rfl, Lib.hid (by rw [HE.out.2]; exact HSN.out.kept (HDN.out nq)), Lib.hid (grownBy_trans_new G2.out (grown_of_below (HDN.out nq) _))⟩
  exact KEY _ _ rfl rfl

theorem XTakesL.before {f : Nat → Value} {x : Nat} {bs : List Nat} {s : Pk.St} {w w1 : World} {e : Ending} {w' : World} (h : XTakesL f x bs s w1 e w') (hg : w.grownBy w1 (some x)) : XTakesL f x bs s w e w' := by
  obtain ⟨a, c, h1, h2, h3, h4, h5, h6⟩ := h
  exact ⟨a, c, h1, h2, h3, Lib.hid (fun j e => by have := h4.out j e; have := hg.size; omega), h5, Lib.hid (grownBy_trans_new hg h6.out)⟩
theorem xleft_le {w : World} {x : Nat} {s : Pk.St} (h : XSt w x s) : Pk.left s ≤ 140737488355328 := by
  obtain ⟨a, c, B, at', hx⟩ := h
  have h1 := hx.left
  have h2 := hx.bytes.le
  have h3 := hx.bytes.len
  cases s with
  | none => exact Nat.zero_le _
  | some r => have := h1 rfl; omega

set_option maxRecDepth 100000 in
set_option maxHeartbeats 800000 in
theorem XBytes_any {w : World} {x : Nat} {s : Pk.St} (h : XSt w x s) : Calls Tryz.prog 32 #[.pointer (some ⟨x, 0, none⟩)] w (XTakesL u8v x (Pk.bytesV s) (Pk.bytesN s) w) := by
  have HC := Lib.hid (XCount_any h (m := 1) ⟨by omega, by omega⟩)
  have hle := countV_le (m := 1) (s := s)
  unfold Pk.bytesV Pk.bytesN
  clear h
  generalize Pk.countV 1 s = n at *
  generalize Pk.countN 1 s = s' at *
  go_enter Tryz.func32, Tryz.ntmps32
  go_wp2_with fail
  refine HC.out.mono ?_
  rintro e w1 ⟨rfl, G1, G2⟩
  clear HC
  have hn : n ≤ 140737488355328 := by have := xleft_le G1.out; omega
  have HT := Lib.hid (xtake_any G1.out hn)
  go_wp2_with fail
  refine HT.out.mono ?_
  intro e w2 G3
  have G4 := Lib.hid (G3.before G2.out)
  obtain ⟨a, c, rfl, G5⟩ := G3
  clear G5 HT
  go_wp2_with fail
  go_ret
  exact G4.out
end Go.Proofs.YtodedlnpokagfaaGreatDoor

