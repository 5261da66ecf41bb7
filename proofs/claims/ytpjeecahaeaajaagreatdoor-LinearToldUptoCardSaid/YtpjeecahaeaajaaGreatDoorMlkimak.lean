/- By program out of: LnMem, LnTimes, LnSc, LnScale, LnMg. -/
import Derived.Test.YtpjeecahaeaajaaGreatDoorMmkloij
import Derived.Test.YtpjeecahaeaajaaGreatDoorMondoeh
import Derived.Laws.Tables
set_option linter.unusedVariables false
set_option linter.unusedSimpArgs false
namespace Go.Proofs.YtpjeecahaeaajaaGreatDoor
open Go.RowKit Rep Ln
structure RM where
 v : Int
 s : Bool
 z1 : Option Addr
 m1 : Nat
 k1 : Nat
 z2 : Option Addr
 m2 : Nat
 k2 : Nat
def RM.raw (d : RM) : RawR := (d.s, (d.z1, d.m1, d.k1), (d.z2, d.m2, d.k2))
def RM.rat (d : RM) : List Value := [.bool d.s, .slice d.z1 d.m1 d.k1, .slice d.z2 d.m2 d.k2]
def RM.cells (d : RM) : List Value := [.int .i64 d.v, .bool d.s, .slice d.z1 d.m1 d.k1, .slice d.z2 d.m2 d.k2]
structure RM.ok (d : RM) (m : Mo) (W : World) : Prop where
 v : d.v = m.1
 q : VQ m.2 d.raw W
theorem RM.ok.kept {d : RM} {m : Mo} {W W' : World} (h : d.ok m W) (hb : Below W.heap.size W W') : d.ok m W' := ⟨h.v, h.q.kept hb⟩
theorem RM.ok.bench {d : RM} {m : Mo} {W W' : World} {b n : Nat} {o p : Bool} (h : d.ok m W) (hB : Bench W b n o) (k : BR b n p W W') : d.ok m W' := ⟨h.v, h.q.benchL hB k.g⟩
def NoLimb (w : World) (g : Nat) : Prop := ∀ off i, w.cell? ⟨g, off, none⟩ = some (.int .u32 i) → False
theorem VQ.pastL {q : Rat} {v : RawR} {w w' : World} {g : Nat} (h : VQ q v w) (ho : NoLimb w g) (hg : w.grownBy w' (some g)) : VQ q v w' := by
 have key : ∀ {a : Option Addr} {xs : List Nat}, Reads w a (xs.map u32v) → xs.map u32v = [] ∨ ∀ r off, a = some ⟨r, off, none⟩ → some r ≠ some g := by
  intro a xs hr
  rcases hr with hr | ⟨r, off, rfl, hr⟩
  ·exact .inl hr
  ·by_cases e : xs = []
   ·exact .inl (by simp [e])
   ·refine .inr fun r' off' hg hb => ?_
    simp at hg hb
    obtain ⟨rfl, rfl⟩ := hg
    subst hb
    have h0 := hr 0 _ (map_getElem? (xs := xs) (f := u32v) (List.length_pos_iff.2 e))
    exact ho _ _ h0
 exact ⟨h.e0, h.e1, h.e2, ⟨⟨h.lies.num.1.grown hg (key h.lies.num.1), h.lies.num.2⟩, ⟨h.lies.den.1.grown hg (key h.lies.den.1), h.lies.den.2⟩⟩⟩
theorem RM.ok.past {d : RM} {m : Mo} {w w' : World} {g : Nat} (h : d.ok m w) (ho : NoLimb w g) (hg : w.grownBy w' (some g)) : d.ok m w' := ⟨h.v, h.q.pastL ho hg⟩
theorem rangeAt_grown {W W' : World} {g off b : Nat} {C : List Value} (h : W.rangeAt g off C) (hg : W.grownBy W' (some b)) (hne : g ≠ b) : W'.rangeAt g off C := fun j u hu => by
 have := h j u hu
 have hlt := World.block_lt_of_cell? _ _ this
 exact (World.cell?_of_block (a := ⟨g, off + j, none⟩) (hg.block g hlt (by simpa using hne))).trans this
structure MsAt (W : World) (a : Option Addr) (rs : List RM) (ms : List Mo) : Prop where
 mem : rs = [] ∨ ∃ g off, a = some ⟨g, off, none⟩ ∧ ∀ (k : Nat) (d : RM), rs[k]? = some d → W.rangeAt g (off + k * 4) d.cells
 len : rs.length = ms.length
 vals : ∀ (k : Nat) (d : RM) (m : Mo), rs[k]? = some d → ms[k]? = some m → d.ok m W
section
variable {W W' : World} {a : Option Addr} {rs : List RM} {ms : List Mo} {b n : Nat} {o p : Bool}
theorem MsAt.kept (h : MsAt W a rs ms) (hb : Below W.heap.size W W') : MsAt W' a rs ms := by
 refine ⟨?_, h.len, fun k d m h1 h2 => (h.vals k d m h1 h2).kept hb⟩
 rcases h.mem with e | ⟨g, off, e, hr⟩
 ·exact .inl e
 ·exact .inr ⟨g, off, e, fun k d hd => rangeAt_kept (hr k d hd) hb (rangeAt_lt (hr k d hd) (by simp [RM.cells]))⟩
theorem bench_apart {g off : Nat} {d : RM} (hr : W.rangeAt g off d.cells) (hB : Bench W b n o) : g ≠ b := by
 rintro rfl
 have h3 := hr 2 _ rfl
 unfold Bench at hB
 simp only [World.cell?, hB] at h3
 simp at h3
theorem MsAt.bench (h : MsAt W a rs ms) (hB : Bench W b n o) (k : BR b n p W W') : MsAt W' a rs ms := by
 refine ⟨?_, h.len, fun i d m h1 h2 => (h.vals i d m h1 h2).bench hB k⟩
 rcases h.mem with e | ⟨g, off, e, hr⟩
 ·exact .inl e
 ·exact .inr ⟨g, off, e, fun i d hd => rangeAt_grown (hr i d hd) k.g (bench_apart (hr i d hd) hB)⟩
theorem MsAt.get (h : MsAt W a rs ms) {k : Nat} (hk : k < ms.length) : ∃ (d : RM) (m : Mo) (g off : Nat), rs[k]? = some d ∧ ms[k]? = some m ∧ a = some ⟨g, off, none⟩ ∧ d.ok m W ∧ W.rangeAt g (off + k * 4) d.cells := by
 have hk2 : k < rs.length := by rw [h.len]; exact hk
 have hd : rs[k]? = some rs[k] := List.getElem?_eq_getElem hk2
 have hm : ms[k]? = some ms[k] := List.getElem?_eq_getElem hk
 rcases h.mem with e | ⟨g, off, e, hr⟩
 ·have := h.len; rw [e] at this; simp at this; omega
 ·exact ⟨_, _, g, off, hd, hm, e, h.vals k _ _ hd hm, hr k _ hd⟩
theorem MsAt.nil (W : World) (a : Option Addr) : MsAt W a [] [] := ⟨.inl rfl, rfl, fun k d m h => by simp at h⟩
theorem MsAt.drop {g off : Nat} (h : MsAt W (some ⟨g, off, none⟩) rs ms) (j : Nat) : MsAt W (some ⟨g, off + j * 4, none⟩) (rs.drop j) (ms.drop j) := by
 refine ⟨?_, by simp [h.len], fun k d m h1 h2 => ?_⟩
 ·rcases h.mem with e | ⟨g', off', e, hr⟩
  ·exact .inl (by simp [e])
  ·cases e
   refine .inr ⟨g, _, rfl, fun k d hd => ?_⟩
   rw [List.getElem?_drop] at hd
   have := hr _ d hd
   rwa [show off + j * 4 + k * 4 = off + (j + k) * 4 by omega]
 ·rw [List.getElem?_drop] at h1 h2
  exact h.vals _ d m h1 h2
theorem MsAt.two (h : MsAt W a rs ms) (hn : ms ≠ []) : ∃ d m rs' ms', rs = d :: rs' ∧ ms = m :: ms' := by
 have hl := h.len
 cases ms with
 | nil => exact absurd rfl hn
 | cons m ms' =>
  cases rs with
  | nil => simp at hl
  | cons d rs' => exact ⟨d, m, rs', ms', rfl, rfl⟩
end
def GoodM (u : Value) : Prop := (∃ i, u = .int .i64 i) ∨ (∃ b, u = .bool b) ∨ ∃ a l c, u = .slice a l c
structure OwnM (w : World) (g cap n : Nat) (xs : List Value) : Prop where
 row : ∃ cur, w.heap[g]? = some (.cells cur 51 (0, 0)) ∧ cur.size = cap * 4 ∧ cur.toList.take (n * 4) = xs ∧ ∀ u ∈ cur.toList, GoodM u
 len : xs.length = n * 4
 le : n ≤ cap
section
variable {w w' : World} {g cap n : Nat} {xs : List Value}
theorem OwnM.of_block (h : OwnM w g cap n xs) (hb : w'.heap[g]? = w.heap[g]?) : OwnM w' g cap n xs := by
 obtain ⟨⟨cur, h1, h2⟩, h3, h4⟩ := h
 exact ⟨⟨cur, hb.trans h1, h2⟩, h3, h4⟩
theorem OwnM.lt (h : OwnM w g cap n xs) : g < w.heap.size := by
 obtain ⟨⟨cur, h1, _⟩, _⟩ := h
 exact (Array.getElem?_eq_some_iff.1 h1).1
theorem OwnM.kept (h : OwnM w g cap n xs) (hb : Below w.heap.size w w') : OwnM w' g cap n xs := h.of_block (hb.block g h.lt)
theorem OwnM.cell (h : OwnM w g cap n xs) (j : Nat) (u : Value) (hu : xs[j]? = some u) : w.cell? ⟨g, j, none⟩ = some u := by
 obtain ⟨⟨cur, h1, h2, h3, _⟩, _⟩ := h
 subst h3
 rw [List.getElem?_take] at hu
 split at hu
 ·simp only [World.cell?, h1]
  rw [← Array.getElem?_toList]
  exact hu
 ·cases hu
theorem OwnM.noLimb (h : OwnM w g cap n xs) : NoLimb w g := fun off i h0 => by
 obtain ⟨⟨cur, h1, _, _, hgood⟩, _⟩ := h
 simp only [World.cell?, h1] at h0
 have hm : Value.int .u32 i ∈ cur.toList := Array.mem_toList_iff.2 (Array.mem_of_getElem? h0)
 rcases hgood _ hm with ⟨_, hx⟩ | ⟨_, hx⟩ | ⟨_, _, _, hx⟩ <;> cases hx
theorem OwnM.ne_cells {c : Nat} (h : OwnM w g cap n xs) {cs : Array Value} {t : TypeId} {f : Nat × Nat} (h2 : w.heap[c]? = some (.cells cs t f)) (ht : 51 ≠ t) : g ≠ c := by
 obtain ⟨⟨cur, h1, _⟩, _⟩ := h
 rintro rfl
 rw [h1] at h2
 cases h2
 exact ht rfl
theorem OwnM.bench {b m : Nat} {o p : Bool} (h : OwnM w g cap n xs) (hB : Bench w b m o) (k : BR b m p w w') : OwnM w' g cap n xs := by
 unfold Bench at hB
 exact h.of_block (k.g.block g h.lt (by have := h.ne_cells hB (by decide); simpa using this))
theorem OwnM.past {i : Nat} (h : OwnM w g cap n xs) (hg : w.grownBy w' (some i)) (hne : g ≠ i) : OwnM w' g cap n xs := h.of_block (hg.block g h.lt (by simpa using hne))
end
def cellsM (rs : List RM) : List Value := rs.flatMap RM.cells
theorem cellsM_len (rs : List RM) : (cellsM rs).length = rs.length * 4 := by
 induction rs with
 | nil => rfl
 | cons k ks ih => simp only [cellsM, List.flatMap_cons, List.length_append] at ih ⊢; rw [ih]; simp [RM.cells]; omega
theorem cellsM_at : ∀ (rs : List RM) (i : Nat) (d : RM), rs[i]? = some d → ∀ j v, d.cells[j]? = some v → (cellsM rs)[i * 4 + j]? = some v
 | d' :: rs, 0, d, h, j, v, hv => by
  simp at h
  subst h
  have hj : j < (d'.cells).length := (List.getElem?_eq_some_iff.1 hv).1
  simp only [cellsM, List.flatMap_cons]
  rw [Nat.zero_mul, Nat.zero_add, List.getElem?_append_left hj]
  exact hv
 | d' :: rs, i + 1, d, h, j, v, hv => by
  have ih := cellsM_at rs i d (by simpa using h) j v hv
  have hl : (d'.cells).length = 4 := rfl
  simp only [cellsM, List.flatMap_cons] at ih ⊢
  rw [List.getElem?_append_right (by omega), hl, show (i + 1) * 4 + j - 4 = i * 4 + j by omega]
  exact ih
theorem cellsM_app (rs ts : List RM) : cellsM (rs ++ ts) = cellsM rs ++ cellsM ts := by simp [cellsM]
theorem cellsM_one (d : RM) : cellsM [d] = d.cells := by simp [cellsM]
theorem goodM_cells (d : RM) : ∀ u ∈ d.cells, GoodM u := by
 intro u hu
 simp only [RM.cells, List.mem_cons, List.not_mem_nil, or_false] at hu
 rcases hu with rfl | rfl | rfl | rfl
 ·exact .inl ⟨_, rfl⟩
 ·exact .inr (.inl ⟨_, rfl⟩)
 ·exact .inr (.inr ⟨_, _, _, rfl⟩)
 ·exact .inr (.inr ⟨_, _, _, rfl⟩)
theorem goodM_all (rs : List RM) : ∀ u ∈ cellsM rs, GoodM u := fun u hu => by
 obtain ⟨d, _, h⟩ := List.mem_flatMap.1 hu
 exact goodM_cells d u h
theorem oneM_cells (rs : List RM) : ∀ u ∈ cellsM rs, u.oneCell' = true := fun u hu => by
 obtain ⟨d, _, h⟩ := List.mem_flatMap.1 hu
 simp only [RM.cells, List.mem_cons, List.not_mem_nil, or_false] at h
 rcases h with rfl | rfl | rfl | rfl <;> rfl
theorem OwnM.ms {w : World} {g cap : Nat} {rs : List RM} {ms : List Mo} (h : OwnM w g cap rs.length (cellsM rs)) (hl : rs.length = ms.length) (hv : ∀ (k : Nat) (d : RM) (m : Mo), rs[k]? = some d → ms[k]? = some m → d.ok m w) : MsAt w (some ⟨g, 0, none⟩) rs ms :=
 ⟨.inr ⟨g, 0, rfl, fun k d hd j u hu => by rw [Nat.zero_add]; exact h.cell _ u (cellsM_at rs k d hd j u hu)⟩, hl, hv⟩
def zMono : Array Value := #[.int .i64 0, .bool false, .slice none 0 0, .slice none 0 0]
theorem info_mono : (Tryz.prog.info? 51).map (fun i => (i.zero, i.size, i.bytes)) = some (some (.agg zMono), 4, 64) := by kernel_rfl
theorem size_mono : (Tryz.prog.info? 51).map (·.size) = some 4 := by kernel_rfl
theorem size_poly : (Tryz.prog.info? 30).map (·.size) = some 4 := by kernel_rfl
theorem info_partsM {t : TypeId} {z : Value} {s b : Nat} (h : (Tryz.prog.info? t).map (fun i => (i.zero, i.size, i.bytes)) = some (some z, s, b)) : ∃ i, Tryz.prog.info? t = some i ∧ i.zero = some z ∧ i.size = s ∧ i.bytes = b := by
 cases hq : Tryz.prog.info? t with
 | none => rw [hq] at h; cases h
 | some q => rw [hq] at h; simp at h; exact ⟨q, rfl, h.1, h.2.1, h.2.2⟩
theorem goodM_made (n : Nat) : ∀ u ∈ (madeCells zMono n).toList, GoodM u := by
 intro u hu
 simp only [madeCells, Array.toList_map, List.mem_map] at hu
 obtain ⟨i, _, rfl⟩ := hu
 have hlt : i % zMono.size < zMono.size := Nat.mod_lt _ (by decide)
 rw [getElem!_pos zMono _ hlt]
 have hm := Array.mem_toList_iff.2 (Array.getElem_mem hlt)
 revert hm
 generalize zMono[i % zMono.size] = u
 intro hm
 simp only [zMono, List.mem_cons, List.not_mem_nil, or_false] at hm
 rcases hm with rfl | rfl | rfl | rfl
 ·exact .inl ⟨_, rfl⟩
 ·exact .inr (.inl ⟨_, rfl⟩)
 ·exact .inr (.inr ⟨_, _, _, rfl⟩)
 ·exact .inr (.inr ⟨_, _, _, rfl⟩)
theorem run_makeM (n : Nat) (hn : n ≤ 1000000) (w : World) : (Instr.makeSlice 28 (.int .i64 0) (.int .i64 (n : Int))).run Tryz.prog w = .ok (.slice (some ⟨w.heap.size, 0, none⟩) 0 n) (w.alloc (.cells (madeCells zMono (n * 4)) 51)) := by
 obtain ⟨i, h1, h2, h3, h4⟩ := info_partsM info_mono
 have := run_make (P := Tryz.prog) w 28 51 i (.agg zMono) Tryz.underlying28 h1 h2 .i64 .i64 0 (n : Int) (Int.le_refl _) (by omega) (by rw [h4]; omega) (by omega)
 rw [this, h3]
 rfl
theorem own_madeM (w : World) (n : Nat) : OwnM (w.alloc (.cells (madeCells zMono (n * 4)) 51)) w.heap.size n 0 [] :=
 ⟨⟨_, heap_alloc_new w _, size_madeCells _ _, by simp, goodM_made _⟩, rfl, Nat.zero_le _⟩
theorem app_roomM {w : World} {ty : TypeId} {g n cap : Nat} {xs : List Value} (hown : OwnM w g cap n xs) (j : Nat) (hroom : n + j ≤ cap) (ax : Addr) (c : Nat) (news : List Value) (hl : news.length = j * 4) (hnews : ∀ i u, news[i]? = some u → w.cell? (ax.add i) = some u) (h1 : ∀ u ∈ news, u.oneCell' = true) (hgd : ∀ u ∈ news, GoodM u) :
    ∃ w', (Builtin.append_ #[28, 28] ty #[.slice (some ⟨g, 0, none⟩) n cap, .slice (some ax) j c]).run Tryz.prog w = .ok (.slice (some ⟨g, 0, none⟩) (n + j) cap) w' ∧ OwnM w' g cap (n + j) (xs ++ news) ∧ w.grownBy w' (some g) := by
 obtain ⟨i, i1, i2, i3, i4⟩ := info_partsM info_mono
 obtain ⟨⟨cur, k1, k2, k3, k4⟩, k5, k6⟩ := hown
 have hr := run_append_room (P := Tryz.prog) w 28 ty 51 i Tryz.underlying28 i1 g n cap cur k1 ax j c news (by rw [i3]; exact hl) hnews h1 hroom (by rw [i3, hl, k2]; omega)
 rw [i3, k3] at hr
 refine ⟨_, hr, ⟨⟨_, setRow_heap w g cur _ 51 _ k1, ?_, ?_, ?_⟩, by rw [List.length_append, k5, hl]; omega, hroom⟩, ⟨rfl, rfl, rfl, by simp, fun k _ hk => setRow_other w g k _ (by simpa using hk)⟩⟩
 ·simp only [List.size_toArray, List.length_append, List.length_drop, Array.length_toList, k5, hl, k2]
  omega
 ·have hlen : (xs ++ news).length = (n + j) * 4 := by rw [List.length_append, k5, hl]; omega
  simp only [List.append_assoc]
  rw [← List.append_assoc, ← hlen]
  exact List.take_left
 ·intro u hu
  simp only [List.mem_append] at hu
  rcases hu with (hu | hu) | hu
  ·rw [← k3] at hu
   exact k4 u (List.mem_of_mem_take hu)
  ·exact hgd u hu
  ·exact k4 u (List.mem_of_mem_drop hu)
section
variable {ops : Array Oper} {o : Oper} {a : Act} {w : World} {K : Act → World → Prop} {Q : Exit → Act → World → Prop} {rest : List Oper} {E : Prop}
theorem wp_appM (s x : Operand) (ho : o.op = .call { callee := .builtin .append, args := #[s, x], argTypes := #[28, 28] }) (g n cap : Nat) (xs : List Value) (hv : a.eval s = .slice (some ⟨g, 0, none⟩) n cap) (hown : OwnM w g cap n xs)
    (ax : Addr) (j c : Nat) (news : List Value) (hx : a.eval x = .slice (some ax) j c) (hl : news.length = j * 4) (hnews : ∀ i u, news[i]? = some u → w.cell? (ax.add i) = some u) (h1 : ∀ u ∈ news, u.oneCell' = true) (hgd : ∀ u ∈ news, GoodM u) (hroom : n + j ≤ cap)
    (h : ∀ w', OwnM w' g cap (n + j) (xs ++ news) → w.grownBy w' (some g) → K (a.put o.dst (.slice (some ⟨g, 0, none⟩) (n + j) cap)) w') : o.wp Tryz.prog a w K Q := by
 obtain ⟨w', q1, q2, q3⟩ := app_roomM (ty := o.type) hown j hroom ax c news hl hnews h1 hgd
 unfold Oper.wp execOp
 simp only [ho, resolve, invoke, builtin, Sem.run_bind, Sem.run_pure, Result.andThen_ok, List.map_toArray, List.map_cons, List.map_nil, hv, hx, q1]
 exact h w' q2 q3
theorem wpList_appM (hgd0 : o.guard = none) (s x : Operand) (ho : o.op = .call { callee := .builtin .append, args := #[s, x], argTypes := #[28, 28] }) (g n cap : Nat) (xs : List Value) (hv : a.eval s = .slice (some ⟨g, 0, none⟩) n cap) (hown : OwnM w g cap n xs)
    (ax : Addr) (j c : Nat) (news : List Value) (hx : a.eval x = .slice (some ax) j c) (hl : news.length = j * 4) (hnews : ∀ i u, news[i]? = some u → w.cell? (ax.add i) = some u) (h1 : ∀ u ∈ news, u.oneCell' = true) (hgd : ∀ u ∈ news, GoodM u) (hroom : n + j ≤ cap)
    (h : ∀ w', OwnM w' g cap (n + j) (xs ++ news) → w.grownBy w' (some g) → wpList Tryz.prog ops Q rest (a.put o.dst (.slice (some ⟨g, 0, none⟩) (n + j) cap)) w') : wpList Tryz.prog ops Q (o :: rest) a w :=
 wpList_plain hgd0 fun _ hK => wp_appM s x ho g n cap xs hv hown ax j c news hx hl hnews h1 hgd hroom fun w' k1 k2 => hK _ _ (h w' k1 k2)
theorem step_appM (hgd0 : o.guard = none) (s x : Operand) (ho : o.op = .call { callee := .builtin .append, args := #[s, x], argTypes := #[28, 28] }) (g n cap : Nat) (xs : List Value) (hv : a.eval s = .slice (some ⟨g, 0, none⟩) n cap) (hown : OwnM w g cap n xs)
    (ax : Addr) (j c : Nat) (news : List Value) (hx : a.eval x = .slice (some ax) j c) (hl : news.length = j * 4) (hnews : ∀ i u, news[i]? = some u → w.cell? (ax.add i) = some u) (h1 : ∀ u ∈ news, u.oneCell' = true) (hgd : ∀ u ∈ news, GoodM u) (hroom : n + j ≤ cap)
    (h : ∀ w', OwnM w' g cap (n + j) (xs ++ news) → w.grownBy w' (some g) → K (a.put o.dst (.slice (some ⟨g, 0, none⟩) (n + j) cap)) w') :
    if Region.wanted o (yielded ops a.tmps) = true then Oper.wp Tryz.prog o a w K Q else E := by
 have hw : Region.wanted o (yielded ops a.tmps) = true := by simp [Region.wanted, hgd0]
 rw [if_pos hw]
 exact wp_appM s x ho g n cap xs hv hown ax j c news hx hl hnews h1 hgd hroom h
end
end Go.Proofs.YtpjeecahaeaajaaGreatDoor

namespace Go.Proofs.YtpjeecahaeaajaaGreatDoor
open Go.RowKit Rep Ln
theorem stayL {W0 W : World} {r : Nat} {c : Array Value} {t : TypeId} (h : W0.heap[r]? = some (.cells c t (0, 0))) (hb : Below W0.heap.size W0 W) : W.heap[r]? = some (.cells c t (0, 0)) := (hb.block _ (Array.getElem?_eq_some_iff.1 h).1).trans h
theorem cellK {W W' : World} {g i : Nat} {v : Value} (h : W.cell? ⟨g, i, none⟩ = some v) (hb : Below W.heap.size W W') : W'.cell? ⟨g, i, none⟩ = some v := (hb.cell (p := ⟨g, i, none⟩) (World.block_lt_of_cell? _ _ h)).trans h
theorem finO {w W0 W : World} {b m : Nat} {o : Bool} {q : Rat} {s : Bool} {z1 z2 : Option Addr} {m1 k1 m2 k2 R : Nat} (hB0 : Below w.heap.size w W0) (hT : Tab w) (hb : b < w.heap.size) (hR : w.heap.size ≤ R) (h3 : Blank W0 R) (h : BR b m o W0 W) (hv : VQ (leftQ o q) (s, (z1, m1, k1), (z2, m2, k2)) W) :
    GotO b m o w q (.returned (.agg #[.bool s, .slice z1 m1 k1, .slice z2 m2 k2])) (set3 W R s (.slice z1 m1 k1) (.slice z2 m2 k2)) := by
 have hbW : BR b m o w W := ⟨grownBy_trans' (grown_of_below hB0 _) h.g, h.bench, h.tab⟩
 have h3' : Blank W R := h.block h3 (by omega)
 refine ⟨s, z1, m1, k1, z2, m2, k2, rfl, Lib.hid ?_, Lib.hid (hv.set3 h3' _ _ _)⟩
 unfold set3
 exact ((hbW.setNew hT hb _ hR).setNew hT hb _ hR).setNew hT hb _ hR
set_option maxRecDepth 100000 in
set_option maxHeartbeats 4000000 in
theorem times_any {w : World} {b m t3 t4 : Nat} {o : Bool} {k x : Rat} {ks : Bool} {ka kb : Option Addr} {kl kc kk ke : Nat} {xs : Bool} {xa xb : Option Addr} {xl xc xk xe : Nat} (hB : Bench w b m o) (hT : Tab w)
    (h3 : w.cell? ⟨t3, 0, none⟩ = some (.pointer (some ⟨b, 0, none⟩))) (h4 : w.heap[t4]? = some (.cells #[.bool ks, .slice ka kl kc, .slice kb kk ke] 27 (0, 0)))
    (hk : VQ k (ks, (ka, kl, kc), (kb, kk, ke)) w) (hx : VQ x (xs, (xa, xl, xc), (xb, xk, xe)) w) (zk : szQ k ≤ 4000) (zx : szQ x ≤ 4000) :
    Calls Tryz.prog 39 #[.agg #[.bool xs, .slice xa xl xc, .slice xb xk xe], .pointer (some ⟨t3, 0, none⟩), .pointer (some ⟨t4, 0, none⟩)] w (GotO b m (o || ovQ m (k * x)) w (k * x)) := by
 obtain ⟨W0, hW0, hB0, b0, b1, hs⟩ := boxes2 w #[.bool xs, .slice xa xl xc, .slice xb xk xe] #[.bool false, .slice none 0 0, .slice none 0 0] 27 27
 have hR0 : BR b m o W0 W0 := .refl (hB.kept hB0) (hT.kept hB0)
 have HC := Lib.hid (gotO_mul hR0 (hk.kept hB0) (hx.kept hB0) zk zx)
 have HFIN := Lib.hid (fun W s z1 m1 k1 z2 m2 k2 (h : BR b m (o || ovQ m (k * x)) W0 W) hv => @finO w W0 W b m _ (k * x) s z1 z2 m1 k1 m2 k2 (w.heap.size + 1) hB0 hT hB.lt (by omega) b1 h hv)
 have HR := Lib.hid (fun W (h : BR b m (o || ovQ m (k * x)) W0 W) => cells3 (h.block b1 (by have := hB.lt; omega)))
 have c3 := cellK h3 hB0
 obtain ⟨c4, c5, c6, _⟩ := cells3 (stayL h4 hB0)
 obtain ⟨d0, d1, d2, _⟩ := cells3 b0
 obtain ⟨e0, e1, e2, f0, f1, f2⟩ := cells3 b1
 clear hB hT h3 h4 hk hx zk zx hB0 hR0 b0 b1 hs
 subst hW0
 generalize (o || ovQ m (k * x)) = OF at *
 go_enter Tryz.func39, Tryz.ntmps39
 go_wp2_with fail
 refine HC.out.mono ?_
 rintro e w3 ⟨s, z1, m1, k1, z2, m2, k2, rfl, hr3, hv3⟩
 obtain ⟨g0, g1, g2, n0, n1, n2⟩ := HR.out _ hr3.out
 have HE := Lib.hid (HFIN.out _ _ _ _ _ _ _ _ hr3.out hv3.out)
 clear HC HFIN HR c3 c4 c5 c6 d0 d1 d2 e0 e1 e2 f0 f1 f2
 go_wp2_with fail
 exact bodyPost_ret (v := .agg #[.bool s, .slice z1 m1 k1, .slice z2 m2 k2]) (by simp [results, Tryz.results39, go_sem, g0, g1, g2]) rfl HE.out
end Go.Proofs.YtpjeecahaeaajaaGreatDoor

namespace Go.Proofs.YtpjeecahaeaajaaGreatDoor
open Go.RowKit Rep Ln
def scaleO (m : Nat) (k : Rat) (ms : List Mo) : Bool := ms.any fun x => ovQ m (k * x.2)
def putL4 (W : World) (P : Nat) (v0 v1 v2 v3 : Value) : World := (((W.setCell ⟨P, 0, none⟩ v0).setCell ⟨P, 1, none⟩ v1).setCell ⟨P, 2, none⟩ v2).setCell ⟨P, 3, none⟩ v3
theorem putL4_grown (W : World) (P : Nat) (v0 v1 v2 v3 : Value) : W.grownBy (putL4 W P v0 v1 v2 v3) (some P) := grownBy_set (grownBy_set (grownBy_set (grownBy_set (grown_refl W _))))
theorem putL4_block {W : World} {P : Nat} {u0 u1 u2 u3 : Value} {t : TypeId} (h : W.heap[P]? = some (.cells #[u0, u1, u2, u3] t (0, 0))) (v0 v1 v2 v3 : Value) : (putL4 W P v0 v1 v2 v3).heap[P]? = some (.cells #[v0, v1, v2, v3] t (0, 0)) := by
 simp [putL4, World.setCell, Array.getElem?_modify, h]
theorem cellsL4 {W : World} {r : Nat} {v0 v1 v2 v3 : Value} {t : TypeId} (h : W.heap[r]? = some (.cells #[v0, v1, v2, v3] t (0, 0))) :
    W.cell? ⟨r, 0, none⟩ = some v0 ∧ W.cell? ⟨r, 1, none⟩ = some v1 ∧ W.cell? ⟨r, 2, none⟩ = some v2 ∧ W.cell? ⟨r, 3, none⟩ = some v3 ∧ W.frozen? ⟨r, 0, none⟩ = false ∧ W.frozen? ⟨r, 1, none⟩ = false ∧ W.frozen? ⟨r, 2, none⟩ = false ∧ W.frozen? ⟨r, 3, none⟩ = false := by
 simp [World.cell?, World.frozen?, h]
theorem noLimb4 {W : World} {r : Nat} {v0 v1 v2 v3 : Value} {t : TypeId} (h : W.heap[r]? = some (.cells #[v0, v1, v2, v3] t (0, 0))) (g0 : GoodM v0) (g1 : GoodM v1) (g2 : GoodM v2) (g3 : GoodM v3) : NoLimb W r := fun off i e => by
 have key : ∀ {u : Value}, GoodM u → u ≠ .int .u32 i := fun hg e => by
  subst e
  rcases hg with ⟨_, hx⟩ | ⟨_, hx⟩ | ⟨_, _, _, hx⟩ <;> cases hx
 rcases off with _ | _ | _ | _ | off <;> simp [World.cell?, h] at e
 ·exact key g0 e
 ·exact key g1 e
 ·exact key g2 e
 ·exact key g3 e
theorem BR.setL {w X : World} {b m P : Nat} {o : Bool} (hX : BR b m o w X) (hT : Tab w) (hb : b < w.heap.size) (hle : w.heap.size ≤ P) (v0 v1 v2 v3 : Value) : BR b m o w (putL4 X P v0 v1 v2 v3) := by
 unfold putL4
 exact (((hX.setNew hT hb _ hle).setNew hT hb _ hle).setNew hT hb _ hle).setNew hT hb _ hle
theorem BR.row {w X X' : World} {b m g : Nat} {o : Bool} (hX : BR b m o w X) (hT : Tab w) (hb : b < w.heap.size) (hle : w.heap.size ≤ g) (hgr : X.grownBy X' (some g)) : BR b m o w X' := by
 refine ⟨⟨hgr.os.trans hX.g.os, hgr.tape.trans hX.g.tape, hgr.output.trans hX.g.output, Nat.le_trans hX.g.size hgr.size, fun k hk hn => (hgr.block k (Nat.lt_of_lt_of_le hk hX.g.size) (by simp; omega)).trans (hX.g.block k hk hn)⟩, hX.bench.of_block (hgr.block b hX.bench.lt (by simp; omega)), fun j hj => ?_⟩
 refine hgr.cell (hX.tab j hj) fun e => ?_
 have h0 := World.block_lt_of_cell? _ _ (hT j hj)
 have h1 := Option.some.inj e
 dsimp only at h0 h1
 omega
structure ScAt (W0 : World) (b m : Nat) (o : Bool) (P G cap : Nat) (c : RawR) (cq : Rat) (rs : List RM) (ms : List Mo) (W : World) : Prop where
 r : BR b m o W0 W
 blk : W.heap[P]? = some (.cells #[.bool c.1, .slice c.2.1.1 c.2.1.2.1 c.2.1.2.2, .slice c.2.2.1 c.2.2.2.1 c.2.2.2.2, .slice (some ⟨G, 0, none⟩) rs.length cap] 30 (0, 0))
 pge : W0.heap.size ≤ P
 gge : W0.heap.size ≤ G
 lt0 : b < W0.heap.size
 tab0 : Tab W0
 row : OwnM W G cap rs.length (cellsM rs)
 num : o = false → VQ cq c W
 vals : o = false → rs.length = ms.length ∧ ∀ (k : Nat) (d : RM) (x : Mo), rs[k]? = some d → ms[k]? = some x → d.ok x W
section
variable {W0 W W' : World} {b m P G cap : Nat} {o p : Bool} {c : RawR} {cq : Rat} {rs : List RM} {ms : List Mo}
theorem ScAt.start {Wc : World} (h : BR b m o W0 Wc) (hT : Tab W0) (hb : b < W0.heap.size) (hv : VQ (leftQ o cq) c Wc) (hg : OwnM Wc G cap 0 []) (hP : Wc.heap[P]? = some (.cells #[.bool false, .slice none 0 0, .slice none 0 0, .slice none 0 0] 30 (0, 0))) (hp : W0.heap.size ≤ P) (hg0 : W0.heap.size ≤ G) :
    ScAt W0 b m o P G cap c cq [] [] (putL4 Wc P (.bool c.1) (.slice c.2.1.1 c.2.1.2.1 c.2.1.2.2) (.slice c.2.2.1 c.2.2.2.1 c.2.2.2.2) (.slice (some ⟨G, 0, none⟩) 0 cap)) := by
 have hno := noLimb4 hP (.inr (.inl ⟨_, rfl⟩)) (.inr (.inr ⟨_, _, _, rfl⟩)) (.inr (.inr ⟨_, _, _, rfl⟩)) (.inr (.inr ⟨_, _, _, rfl⟩))
 refine ⟨h.setL hT hb hp _ _ _ _, putL4_block hP _ _ _ _, hp, hg0, hb, hT, hg.past (putL4_grown _ _ _ _ _ _) (hg.ne_cells hP (by decide)), fun e => ?_, fun _ => ⟨rfl, fun k d x h => by simp at h⟩⟩
 have hv' := hv.pastL hno (putL4_grown Wc P (.bool c.1) (.slice c.2.1.1 c.2.1.2.1 c.2.1.2.2) (.slice c.2.2.1 c.2.2.2.1 c.2.2.2.2) (.slice (some ⟨G, 0, none⟩) 0 cap))
 unfold leftQ at hv'
 rw [e] at hv'
 exact hv'
theorem ScAt.kept (h : ScAt W0 b m o P G cap c cq rs ms W) (hb : Below W.heap.size W W') : ScAt W0 b m o P G cap c cq rs ms W' :=
 ⟨h.r.kept hb, stayL h.blk hb, h.pge, h.gge, h.lt0, h.tab0, h.row.kept hb, fun e => (h.num e).kept hb, fun e => ⟨(h.vals e).1, fun k d x h1 h2 => ((h.vals e).2 k d x h1 h2).kept hb⟩⟩
theorem ScAt.bench (h : ScAt W0 b m o P G cap c cq rs ms W) (k : BR b m p W W') (hop : p = false → o = false) : ScAt W0 b m p P G cap c cq rs ms W' :=
 ⟨h.r.trans k, k.block h.blk (by have := h.lt0; have := h.pge; omega), h.pge, h.gge, h.lt0, h.tab0, h.row.bench h.r.bench k, fun e => (h.num (hop e)).benchL h.r.bench k.g, fun e => ⟨(h.vals (hop e)).1, fun i d x h1 h2 => ((h.vals (hop e)).2 i d x h1 h2).bench h.r.bench k⟩⟩
theorem ScAt.ne (h : ScAt W0 b m o P G cap c cq rs ms W) : G ≠ P := h.row.ne_cells h.blk (by decide)
theorem ScAt.past {M : Nat} (h : ScAt W0 b m o P G cap c cq rs ms W) (hg : W.grownBy W' (some M)) (hM : W0.heap.size ≤ M) (hP : P ≠ M) (hG : G ≠ M) (hno : NoLimb W M) : ScAt W0 b m o P G cap c cq rs ms W' :=
 ⟨h.r.row h.tab0 h.lt0 hM hg, (hg.block P (Array.getElem?_eq_some_iff.1 h.blk).1 (by simpa using hP)).trans h.blk, h.pge, h.gge, h.lt0, h.tab0, h.row.past hg hG, fun e => (h.num e).pastL hno hg, fun e => ⟨(h.vals e).1, fun k d x h1 h2 => ((h.vals e).2 k d x h1 h2).past hno hg⟩⟩
theorem ScAt.push (h : ScAt W0 b m o P G cap c cq rs ms W) {d : RM} {x : Mo} (hd : o = false → d.ok x W) (ho : OwnM W' G cap (rs.length + 1) (cellsM rs ++ d.cells)) (hg : W.grownBy W' (some G)) :
    (W'.cell? ⟨P, 3, none⟩ = some (.slice (some ⟨G, 0, none⟩) rs.length cap) ∧ W'.frozen? ⟨P, 3, none⟩ = false) ∧ ScAt W0 b m o P G cap c cq (rs ++ [d]) (ms ++ [x]) (W'.setCell ⟨P, 3, none⟩ (.slice (some ⟨G, 0, none⟩) (rs.length + 1) cap)) := by
 have hGP := h.ne
 have hblk : W'.heap[P]? = _ := (hg.block P (Array.getElem?_eq_some_iff.1 h.blk).1 (by simpa using fun e => hGP e.symm)).trans h.blk
 obtain ⟨_, _, _, c3, _, _, _, f3⟩ := cellsL4 hblk
 have hnP := noLimb4 hblk (.inr (.inl ⟨_, rfl⟩)) (.inr (.inr ⟨_, _, _, rfl⟩)) (.inr (.inr ⟨_, _, _, rfl⟩)) (.inr (.inr ⟨_, _, _, rfl⟩))
 have hg2 : W'.grownBy (W'.setCell ⟨P, 3, none⟩ (.slice (some ⟨G, 0, none⟩) (rs.length + 1) cap)) (some P) := grownBy_set (grown_refl W' _)
 have hlen : (rs ++ [d]).length = rs.length + 1 := by simp
 refine ⟨⟨c3, f3⟩, (h.r.row h.tab0 h.lt0 h.gge hg).row h.tab0 h.lt0 h.pge hg2, ?_, h.pge, h.gge, h.lt0, h.tab0, ?_, fun e => ((h.num e).pastL h.row.noLimb hg).pastL hnP hg2, fun e => ⟨by rw [hlen, (h.vals e).1]; simp, fun k d' x' h1 h2 => ?_⟩⟩
 ·rw [hlen]
  simp [World.setCell, Array.getElem?_modify, hblk]
 ·rw [hlen, cellsM_app, cellsM_one]
  exact ho.past hg2 hGP
 ·have hl := (h.vals e).1
  by_cases hk : k < rs.length
  ·rw [List.getElem?_append_left hk] at h1
   rw [List.getElem?_append_left (by rw [← hl]; exact hk)] at h2
   exact (((h.vals e).2 k d' x' h1 h2).past h.row.noLimb hg).past hnP hg2
  ·rw [List.getElem?_append_right (by omega)] at h1
   rw [List.getElem?_append_right (by rw [← hl]; omega), ← hl] at h2
   obtain ⟨hz, rfl⟩ : k - rs.length = 0 ∧ d = d' := by
    cases hq : k - rs.length with
    | zero => rw [hq] at h1; exact ⟨rfl, by simpa using h1⟩
    | succ j => rw [hq] at h1; simp at h1
   rw [hz] at h2
   obtain rfl : x = x' := by simpa using h2
   exact ((hd e).past h.row.noLimb hg).past hnP hg2
theorem ScAt.said {ms' : List Mo} (h : ScAt W0 b m o P G cap c cq rs ms W) (e : o = false → ms = ms') : ScAt W0 b m o P G cap c cq rs ms' W :=
 ⟨h.r, h.blk, h.pge, h.gge, h.lt0, h.tab0, h.row, h.num, fun ho => by rw [← e ho]; exact h.vals ho⟩
end
theorem measure_next {n j : Nat} {z : Int} (hz : z = (j : Int) + 1) (h : j < n) : n - (intOf (.int .i64 z)).toNat < n - (intOf (.int .i64 (j : Int))).toNat := by
 subst hz
 simp [intOf]
 omega
theorem VQ.numE {q : Rat} {s : Bool} {a1 a2 : Option Addr} {l1 c1 l2 c2 : Nat} {W : World} (h : VQ q (s, (a1, l1, c1), (a2, l2, c2)) W) (hs : szQ q ≤ 1000000) : NumE W a1 l1 c1 (mgQ q) := by
 obtain ⟨h0, h1, h2, h3⟩ := h
 dsimp only at h0 h1 h2 h3
 unfold szQ at hs
 subst h1
 exact NumE.of h3.num (by omega)
theorem leftQ_sz {o : Bool} {q : Rat} {n : Nat} (h : szQ q ≤ n) : szQ (leftQ o q) ≤ n := by
 unfold leftQ
 split
 ·rw [szQ_zero]; omega
 ·exact h
theorem keep_none {v : Int} {q : Rat} (h : mgQ q = 0) : keep (v, q) = [] := by
 unfold keep; rw [if_pos (mg_zero.1 h)]
theorem keep_some {v : Int} {q : Rat} (h : mgQ q ≠ 0) : keep (v, q) = [(v, q)] := by
 unfold keep; rw [if_neg (fun e => h (mg_zero.2 e))]
theorem left_nz {o : Bool} {q : Rat} (h : mgQ (leftQ o q) ≠ 0) : o = false := by
 cases o
 ·rfl
 ·exact absurd rfl h
theorem mono_set {W : World} {M : Nat} {v : Int} {s t : Bool} {z1 z2 y1 y2 : Value} (h : W.heap[M]? = some (.cells #[.int .i64 v, .bool s, z1, z2] 51 (0, 0))) :
    (((W.setCell ⟨M, 1, none⟩ (.bool t)).setCell ⟨M, 2, none⟩ y1).setCell ⟨M, 3, none⟩ y2).heap[M]? = some (.cells #[.int .i64 v, .bool t, y1, y2] 51 (0, 0)) ∧ W.grownBy (((W.setCell ⟨M, 1, none⟩ (.bool t)).setCell ⟨M, 2, none⟩ y1).setCell ⟨M, 3, none⟩ y2) (some M) := by
 refine ⟨?_, grownBy_set (grownBy_set (grownBy_set (grown_refl W _)))⟩
 simp [World.setCell, Array.getElem?_modify, h]
theorem noLimbM {W : World} {M : Nat} {v : Int} {s : Bool} {z1 z2 : Option Addr} {m1 k1 m2 k2 : Nat} {t : TypeId} (h : W.heap[M]? = some (.cells #[.int .i64 v, .bool s, .slice z1 m1 k1, .slice z2 m2 k2] t (0, 0))) : NoLimb W M :=
 noLimb4 h (.inl ⟨_, rfl⟩) (.inr (.inl ⟨_, rfl⟩)) (.inr (.inr ⟨_, _, _, rfl⟩)) (.inr (.inr ⟨_, _, _, rfl⟩))
theorem range4 {W : World} {M : Nat} {v0 v1 v2 v3 : Value} {t : TypeId} (h : W.heap[M]? = some (.cells #[v0, v1, v2, v3] t (0, 0))) : W.rangeAt M 0 [v0, v1, v2, v3] := fun j u hu => by
 obtain ⟨c0, c1, c2, c3, _⟩ := cellsL4 h
 rcases j with _ | _ | _ | _ | j <;> simp at hu <;> subst hu <;> assumption
structure PolyAt (c : Rat) (ms : List Mo) (v : RawR) (a : Option Addr) (rs : List RM) (W : World) : Prop where
 num : VQ c v W
 ms : MsAt W a rs ms
theorem PolyAt.kept {c : Rat} {ms : List Mo} {v : RawR} {a : Option Addr} {rs : List RM} {W W' : World} (h : PolyAt c ms v a rs W) (hb : Below W.heap.size W W') : PolyAt c ms v a rs W' := ⟨h.num.kept hb, h.ms.kept hb⟩
theorem PolyAt.bench {c : Rat} {ms : List Mo} {v : RawR} {a : Option Addr} {rs : List RM} {W W' : World} {b m : Nat} {o p : Bool} (h : PolyAt c ms v a rs W) (hB : Bench W b m o) (k : BR b m p W W') : PolyAt c ms v a rs W' := ⟨h.num.benchL hB k.g, h.ms.bench hB k⟩
theorem PolyAt.zero (W : World) : PolyAt 0 [] (false, (none, 0, 0), (none, 0, 0)) none [] W := ⟨VQ.zero W, MsAt.nil W _⟩
def leftM (o : Bool) (ms : List Mo) : List Mo := if o = true then [] else ms
def GotP (b m : Nat) (o : Bool) (W5 : World) (c : Rat) (ms : List Mo) (e : Ending) (W' : World) : Prop :=
 ∃ s z1 m1 k1 z2 m2 k2 a cp rs, e = .returned (.agg #[.bool s, .slice z1 m1 k1, .slice z2 m2 k2, .slice a (List.length rs) cp]) ∧ Hid (BR b m o W5 W') ∧ Hid (PolyAt (leftQ o c) (leftM o ms) (s, (z1, m1, k1), (z2, m2, k2)) a rs W') ∧ rs.length ≤ cp ∧ cp ≤ 1000000 ∧ (a = none → rs = [] ∧ cp = 0)
theorem fin_zero {w W0 W : World} {b m R : Nat} {c : Rat} {ms : List Mo} (hB0 : Below w.heap.size w W0) (hT : Tab w) (hb : b < w.heap.size) (hR : w.heap.size ≤ R) (h : BR b m true W0 W) :
    GotP b m true w c ms (.returned (.agg #[.bool false, .slice none 0 0, .slice none 0 0, .slice none 0 0])) (putL4 W R (.bool false) (.slice none 0 0) (.slice none 0 0) (.slice none 0 0)) := by
 have hbW : BR b m true w W := ⟨grownBy_trans' (grown_of_below hB0 _) h.g, h.bench, h.tab⟩
 exact ⟨_, _, _, _, _, _, _, none, 0, [], rfl, Lib.hid (hbW.setL hT hb hR _ _ _ _), Lib.hid (PolyAt.zero _), Nat.le_refl _, by omega, fun _ => ⟨rfl, rfl⟩⟩
theorem fin_poly {w W0 W : World} {b m R P G cap : Nat} {c : RawR} {cq : Rat} {rs : List RM} {ms : List Mo} (hB0 : Below w.heap.size w W0) (hT : Tab w) (hb : b < w.heap.size) (hR : w.heap.size ≤ R) (hR0 : R < W0.heap.size) (hc : cap ≤ 1000000)
    (h3 : W0.heap[R]? = some (.cells #[.bool false, .slice none 0 0, .slice none 0 0, .slice none 0 0] 30 (0, 0))) (h : ScAt W0 b m false P G cap c cq rs ms W) :
    GotP b m false w cq ms (.returned (.agg #[.bool c.1, .slice c.2.1.1 c.2.1.2.1 c.2.1.2.2, .slice c.2.2.1 c.2.2.2.1 c.2.2.2.2, .slice (some ⟨G, 0, none⟩) rs.length cap])) (putL4 W R (.bool c.1) (.slice c.2.1.1 c.2.1.2.1 c.2.1.2.2) (.slice c.2.2.1 c.2.2.2.1 c.2.2.2.2) (.slice (some ⟨G, 0, none⟩) rs.length cap)) := by
 have hbW : BR b m false w W := ⟨grownBy_trans' (grown_of_below hB0 _) h.r.g, h.r.bench, h.r.tab⟩
 have hblk := h.r.block h3 (by omega)
 have hno := noLimb4 hblk (.inr (.inl ⟨_, rfl⟩)) (.inr (.inr ⟨_, _, _, rfl⟩)) (.inr (.inr ⟨_, _, _, rfl⟩)) (.inr (.inr ⟨_, _, _, rfl⟩))
 have hg := putL4_grown W R (.bool c.1) (.slice c.2.1.1 c.2.1.2.1 c.2.1.2.2) (.slice c.2.2.1 c.2.2.2.1 c.2.2.2.2) (.slice (some ⟨G, 0, none⟩) rs.length cap)
 have hrow := h.row.past hg (h.row.ne_cells hblk (by decide))
 exact ⟨_, _, _, _, _, _, _, some ⟨G, 0, none⟩, cap, rs, rfl, Lib.hid (hbW.setL hT hb hR _ _ _ _), Lib.hid ⟨(h.num rfl).pastL hno hg, hrow.ms (h.vals rfl).1 fun k d x h1 h2 => ((h.vals rfl).2 k d x h1 h2).past hno hg⟩, h.row.le, hc, fun e => by cases e⟩
end Go.Proofs.YtpjeecahaeaajaaGreatDoor

namespace Go.Proofs.YtpjeecahaeaajaaGreatDoor
open Go.RowKit Rep Ln
theorem scale_take {k : Rat} {ms : List Mo} {j : Nat} {x : Mo} (h : ms[j]? = some x) : scale k (ms.take (j + 1)) = scale k (ms.take j) ++ keep (x.1, k * x.2) := by
 rw [List.take_add_one, h]
 simp [scale]
theorem scaleO_take {m : Nat} {k : Rat} {ms : List Mo} {j : Nat} {x : Mo} (h : ms[j]? = some x) : scaleO m k (ms.take (j + 1)) = (scaleO m k (ms.take j) || ovQ m (k * x.2)) := by
 rw [List.take_add_one, h]
 simp [scaleO]
theorem boxes4 (w : World) (v1 v2 v3 v4 : Array Value) (t1 t2 t3 t4 : TypeId) : ∃ W0, W0 = (((w.alloc (.cells v1 t1)).alloc (.cells v2 t2)).alloc (.cells v3 t3)).alloc (.cells v4 t4) ∧ Below w.heap.size w W0 ∧
    W0.heap[w.heap.size]? = some (.cells v1 t1 (0, 0)) ∧ W0.heap[w.heap.size + 1]? = some (.cells v2 t2 (0, 0)) ∧ W0.heap[w.heap.size + 1 + 1]? = some (.cells v3 t3 (0, 0)) ∧ W0.heap[w.heap.size + 1 + 1 + 1]? = some (.cells v4 t4 (0, 0)) ∧ W0.heap.size = w.heap.size + 1 + 1 + 1 + 1 := by
 obtain ⟨W1, h1, hb, k1, k2, k3, hs⟩ := boxes3 w v1 v2 v3 t1 t2 t3
 have hs1 : W1.heap.size = w.heap.size + 1 + 1 + 1 := by rw [h1]; simp
 have hal := (Below.refl W1.heap.size W1).alloc (Nat.le_refl _) (.cells v4 t4)
 have k4 := heap_alloc_new W1 (.cells v4 t4)
 rw [hs1] at k4
 exact ⟨W1.alloc (.cells v4 t4), by rw [h1], hb.trans (hal.mono hb.size), stayL k1 hal, stayL k2 hal, stayL k3 hal, k4, by simp [hs1]⟩
theorem zero_mono (w : World) : (zeroValue 51).run Tryz.prog w = .ok (.agg zMono) w := by
 unfold zMono
 go_simp
theorem one_mono (d : RM) : d.cells.toArray.all (·.oneCell') = true := by simp [RM.cells, Value.oneCell']
set_option maxRecDepth 100000 in
set_option maxHeartbeats 16000000 in
theorem Scale_any {w : World} {b m : Nat} {o : Bool} {k c : Rat} {ms : List Mo} {ks : Bool} {ka kb : Option Addr} {kl kc kk ke : Nat} {cs : Bool} {ca cb : Option Addr} {cl cc ck ce : Nat} {a : Option Addr} {cp : Nat} {rs : List RM} (hB : Bench w b m o) (hT : Tab w)
    (hk : VQ k (ks, (ka, kl, kc), (kb, kk, ke)) w) (hp : PolyAt c ms (cs, (ca, cl, cc), (cb, ck, ce)) a rs w) (zk : szQ k ≤ 2000) (zc : szQ c ≤ 2000) (zm : ∀ x ∈ ms, szQ x.2 ≤ 2000) (hn : rs.length ≤ 1000) :
    Calls Tryz.prog 18 #[.pointer (some ⟨b, 0, none⟩), .agg #[.bool ks, .slice ka kl kc, .slice kb kk ke], .agg #[.bool cs, .slice ca cl cc, .slice cb ck ce, .slice a rs.length cp]] w (GotP b m (o || ovQ m (k * c) || scaleO m k ms) w (k * c) (scale k ms)) := by
 obtain ⟨W0, hW0, hB0, b0, b1, b2, b3, hs⟩ := boxes4 w #[.pointer (some ⟨b, 0, none⟩)] #[.bool ks, .slice ka kl kc, .slice kb kk ke] #[.bool cs, .slice ca cl cc, .slice cb ck ce, .slice a rs.length cp] #[.bool false, .slice none 0 0, .slice none 0 0, .slice none 0 0] 37 27 30 30
 have hT0 := hT.kept hB0
 have hBB := hB.kept hB0
 have hbl := hB.lt
 have hbW : BR b m o W0 W0 := .refl hBB hT0
 have hp0 := hp.kept hB0
 have hk0 := hk.kept hB0
 have hmk := fun w => run_makeM rs.length (by omega) w
 have hce : W0.cell? ⟨w.heap.size, 0, none⟩ = some (.pointer (some ⟨b, 0, none⟩)) := by simp [World.cell?, b0]
 have HCA : Hid (∀ W p x xs xa xl xc xb xk xe, BR b m p W0 W → VQ x (xs, (xa, xl, xc), (xb, xk, xe)) W → szQ x ≤ 2000 → Calls Tryz.prog 39 #[.agg #[.bool xs, .slice xa xl xc, .slice xb xk xe], .pointer (some ⟨w.heap.size, 0, none⟩), .pointer (some ⟨w.heap.size + 1, 0, none⟩)] W (GotO b m (p || ovQ m (k * x)) W (k * x))) := Lib.hid fun W p x xs xa xl xc xb xk xe h hx zx =>
  times_any h.bench h.tab (h.cell hce (by omega)) (h.block b1 (by omega)) (hk0.benchL hBB h.g) hx (by omega) (by omega)
 have HC : Hid (∀ W, BR b m o W0 W → Calls Tryz.prog 39 #[.agg #[.bool cs, .slice ca cl cc, .slice cb ck ce], .pointer (some ⟨w.heap.size, 0, none⟩), .pointer (some ⟨w.heap.size + 1, 0, none⟩)] W (GotO b m (o || ovQ m (k * c)) W (k * c))) := Lib.hid fun W h => HCA.out W o c _ _ _ _ _ _ _ h (hp0.num.benchL hBB h.g) zc
 have HT0 := Lib.hid hT0
 have HLT : Hid (b < W0.heap.size) := Lib.hid hBB.lt
 have HBW := Lib.hid hbW
 have HBD := Lib.hid (hbW.kept (below_drew W0))
 have HMS := Lib.hid (And.intro hp0.ms (And.intro zm hn))
 have HZ := Lib.hid zk
 have HBLK := Lib.hid (And.intro b2 (And.intro b3 (And.intro hs (And.intro hB0 (And.intro hT (And.intro hbl hce))))))
 have HW0 := Lib.hid hW0
 have HBB := Lib.hid hBB
 obtain ⟨n, hnn⟩ : ∃ n, rs.length = n := ⟨_, rfl⟩
 have HN := Lib.hid hnn
 rw [hnn] at b2 hmk hW0 HW0 HBLK ⊢
 have HO1 : Hid ((o || ovQ m (k * c)) = (o || ovQ m (k * c))) := Lib.hid rfl
 generalize ho1 : (o || ovQ m (k * c)) = o1 at HC ⊢
 have HK : Hid (∀ p W, BR b m p W0 W → (W.cell? ⟨w.heap.size + 1 + 1, 0, none⟩ = some (.bool cs) ∧ W.cell? ⟨w.heap.size + 1 + 1, 1, none⟩ = some (.slice ca cl cc) ∧ W.cell? ⟨w.heap.size + 1 + 1, 2, none⟩ = some (.slice cb ck ce) ∧ W.cell? ⟨w.heap.size + 1 + 1, 3, none⟩ = some (.slice a n cp))) := Lib.hid fun p W h => by
  obtain ⟨q0, q1, q2, q3, _⟩ := cellsL4 (h.block b2 (by omega))
  exact ⟨q0, q1, q2, q3⟩
 clear hB hT hk hp zk zc zm hT0 hBB hbl hbW hp0 hk0 hB0 b0 b1 b2 b3 hs hnn ho1 HO1 hW0 hce
 go_enter Tryz.func18, Tryz.ntmps18
 go_wp2_with fail
 rw [← HW0.out]
 refine wp_region_ex (ι := Nat × Nat × RawR) (fun i => [(12, .func (.func 39) #[] #[.pointer (some ⟨w.heap.size, 0, none⟩), .pointer (some ⟨w.heap.size + 1, 0, none⟩)]), (13, .pointer (some ⟨w.heap.size + 1 + 1, 0, none⟩)), (14, .agg #[.bool cs, .slice ca cl cc, .slice cb ck ce]), (15, .agg #[.bool i.2.2.1, .slice i.2.2.2.1.1 i.2.2.2.1.2.1 i.2.2.2.1.2.2, .slice i.2.2.2.2.1 i.2.2.2.2.2.1 i.2.2.2.2.2.2]), (16, .pointer (some ⟨w.heap.size + 1 + 1, 3, none⟩)), (17, .slice a n cp), (18, .int .i64 (n : Int)), (19, .slice (some ⟨i.2.1, 0, none⟩) 0 n), (20, .agg #[.bool i.2.2.1, .slice i.2.2.2.1.1 i.2.2.2.1.2.1 i.2.2.2.1.2.2, .slice i.2.2.2.2.1 i.2.2.2.2.2.1 i.2.2.2.2.2.2, .slice (some ⟨i.2.1, 0, none⟩) 0 n]), (8, .pointer (some ⟨i.1, 0, none⟩))]) (fun i => ScAt W0 b m o1 i.1 i.2.1 n i.2.2 (k * c) [] []) ?reg ?rest
 case reg =>
  refine wp_region_held_drew (S := (fun w' => w'.cell? ⟨w.heap.size + 1 + 1, 0, none⟩ = some (.bool cs) ∧ w'.cell? ⟨w.heap.size + 1 + 1, 1, none⟩ = some (.slice ca cl cc) ∧ w'.cell? ⟨w.heap.size + 1 + 1, 2, none⟩ = some (.slice cb ck ce) ∧ w'.cell? ⟨w.heap.size + 1 + 1, 3, none⟩ = some (.slice a n cp))) (by kernel_rfl) ?_ (fun hHeld => ?_)
  ·exact HK.out _ _ HBD.out
  refine tkV 0 hHeld ?_
  try simp only [Act.put, zA, zB, zC, zD, zE, zF]
  refine tkV 1 hHeld ?_
  try simp only [Act.put, zA, zB, zC, zD, zE, zF]
  refine tkV 2 hHeld ?_
  try simp only [Act.put, zA, zB, zC, zD, zE, zF]
  refine tkV 4 hHeld ?_
  try simp only [Act.put, zA, zB, zC, zD, zE, zF]
  refine tkV 5 hHeld ?_
  try simp only [Act.put, zA, zB, zC, zD, zE, zF]
  refine tkV 6 hHeld ?_
  try simp only [Act.put, zA, zB, zC, zD, zE, zF]
  refine rdy [3, 7, 9] ?_
  refine AllReadyH.cons (by rfl) (fun K hK => ?_) ?_
  ·go_simp
   refine (HC.out _ HBD.out).mono ?_
   rintro e w1 ⟨s9, y1, l1, c1, y2, l2, c2, rfl, hr1, hv1⟩
   have HB1 := Lib.hid (BR.trans HBD.out hr1.out)
   have HV1 := Lib.hid hv1.out
   clear hr1 hv1
   refine hK.out _ _ ?_ (fun hHeld => ?_)
   ·exact HK.out _ _ HB1.out
   clear hK K
   try simp only [Act.put, zA, zB, zC, zD, zE, zF]
   refine rdy [7, 9] ?_
   refine AllReadyH.cons (by rfl) (fun K hK => ?_) ?_
   ·go_simp
    obtain ⟨w2, hw2⟩ : ∃ w2, w2 = w1.alloc (.cells (madeCells zMono (n * 4)) 51) := ⟨_, rfl⟩
    rw [← hw2]
    have hal : Below w1.heap.size w1 w2 := by rw [hw2]; exact (Below.refl _ _).alloc (Nat.le_refl _) _
    have HV2 := Lib.hid (VQ.kept HV1.out hal)
    have HB2 := Lib.hid (BR.kept HB1.out hal)
    have HG2 : Hid (OwnM w2 w1.heap.size n 0 []) := Lib.hid (by rw [hw2]; exact (own_madeM _ n).of_block rfl)
    have HGL2 : Hid (W0.heap.size ≤ w1.heap.size) := Lib.hid (BR.size HB1.out)
    clear hal hw2
    refine hK.out _ _ ?_ (fun hHeld => ?_)
    ·exact HK.out _ _ HB2.out
    clear hK K
    try simp only [Act.put, zA, zB, zC, zD, zE, zF]
    refine tkV 8 hHeld ?_
    try simp only [Act.put, zA, zB, zC, zD, zE, zF]
    refine rdy [9] ?_
    refine AllReadyH.cons (by rfl) (fun K hK => ?_) AllReadyH.nil
    go_simp
    obtain ⟨w3, hw3⟩ : ∃ w3, w3 = w2.alloc (.cells #[.bool false, .slice none 0 0, .slice none 0 0, .slice none 0 0] 30) := ⟨_, rfl⟩
    rw [← hw3]
    have hal : Below w2.heap.size w2 w3 := by rw [hw3]; exact (Below.refl _ _).alloc (Nat.le_refl _) _
    have HV3 := Lib.hid (VQ.kept HV2.out hal)
    have HG3 := Lib.hid (OwnM.kept HG2.out hal)
    have HB3 := Lib.hid (BR.kept HB2.out hal)
    have HP3 : Hid (w3.heap[w2.heap.size]? = some (.cells #[.bool false, .slice none 0 0, .slice none 0 0, .slice none 0 0] 30 (0, 0))) := Lib.hid (by rw [hw3]; exact heap_alloc_new w2 _)
    have HPL3 : Hid (W0.heap.size ≤ w2.heap.size) := Lib.hid (BR.size HB2.out)
    clear hal hw3
    refine hK.out _ _ ?_ (fun hHeld => ?_)
    ·exact HK.out _ _ HB3.out
    clear hK K
    try simp only [Act.put, zA, zB, zC, zD, zE, zF]
    refine rdy [10] ?_
    refine AllReadyH.cons (by rfl) (fun K hK => ?_) AllReadyH.nil
    obtain ⟨q0, q1, q2, q3, f0, f1, f2, f3⟩ := cellsL4 HP3.out
    go_simp
    have HE := Lib.hid (ScAt.start HB3.out HT0.out HLT.out HV3.out HG3.out HP3.out HPL3.out HGL2.out)
    clear q0 q1 q2 q3 f0 f1 f2 f3
    refine hK.out _ _ ?_ (fun hHeld => ?_)
    ·exact HK.out _ _ (ScAt.r HE.out)
    clear hK K
    try simp only [Act.put, zA, zB, zC, zD, zE, zF]
    refine wpAnyH_done (by kernel_rfl) ?_ _
    refine ⟨(w2.heap.size, w1.heap.size, (s9, (y1, l1, c1), (y2, l2, c2))), ?_, HE.out⟩
    simp only [puts, Act.put, zA, zB, zC, zD, zE, zF]
   refine AllReadyH.cons (by rfl) (fun K hK => ?_) ?_
   ·go_simp
    obtain ⟨w4, hw4⟩ : ∃ w4, w4 = w1.alloc (.cells #[.bool false, .slice none 0 0, .slice none 0 0, .slice none 0 0] 30) := ⟨_, rfl⟩
    rw [← hw4]
    have hal : Below w1.heap.size w1 w4 := by rw [hw4]; exact (Below.refl _ _).alloc (Nat.le_refl _) _
    have HV4 := Lib.hid (VQ.kept HV1.out hal)
    have HB4 := Lib.hid (BR.kept HB1.out hal)
    have HP4 : Hid (w4.heap[w1.heap.size]? = some (.cells #[.bool false, .slice none 0 0, .slice none 0 0, .slice none 0 0] 30 (0, 0))) := Lib.hid (by rw [hw4]; exact heap_alloc_new w1 _)
    have HPL4 : Hid (W0.heap.size ≤ w1.heap.size) := Lib.hid (BR.size HB1.out)
    clear hal hw4
    refine hK.out _ _ ?_ (fun hHeld => ?_)
    ·exact HK.out _ _ HB4.out
    clear hK K
    try simp only [Act.put, zA, zB, zC, zD, zE, zF]
    refine rdy [7] ?_
    refine AllReadyH.cons (by rfl) (fun K hK => ?_) AllReadyH.nil
    go_simp
    obtain ⟨w5, hw5⟩ : ∃ w5, w5 = w4.alloc (.cells (madeCells zMono (n * 4)) 51) := ⟨_, rfl⟩
    rw [← hw5]
    have hal : Below w4.heap.size w4 w5 := by rw [hw5]; exact (Below.refl _ _).alloc (Nat.le_refl _) _
    have HV5 := Lib.hid (VQ.kept HV4.out hal)
    have HP5 := Lib.hid (stayL HP4.out hal)
    have HB5 := Lib.hid (BR.kept HB4.out hal)
    have HG5 : Hid (OwnM w5 w4.heap.size n 0 []) := Lib.hid (by rw [hw5]; exact (own_madeM _ n).of_block rfl)
    have HGL5 : Hid (W0.heap.size ≤ w4.heap.size) := Lib.hid (BR.size HB4.out)
    clear hal hw5
    refine hK.out _ _ ?_ (fun hHeld => ?_)
    ·exact HK.out _ _ HB5.out
    clear hK K
    try simp only [Act.put, zA, zB, zC, zD, zE, zF]
    refine tkV 8 hHeld ?_
    try simp only [Act.put, zA, zB, zC, zD, zE, zF]
    refine rdy [10] ?_
    refine AllReadyH.cons (by rfl) (fun K hK => ?_) AllReadyH.nil
    obtain ⟨q0, q1, q2, q3, f0, f1, f2, f3⟩ := cellsL4 HP5.out
    go_simp
    have HE := Lib.hid (ScAt.start HB5.out HT0.out HLT.out HV5.out HG5.out HP5.out HPL4.out HGL5.out)
    clear q0 q1 q2 q3 f0 f1 f2 f3
    refine hK.out _ _ ?_ (fun hHeld => ?_)
    ·exact HK.out _ _ (ScAt.r HE.out)
    clear hK K
    try simp only [Act.put, zA, zB, zC, zD, zE, zF]
    refine wpAnyH_done (by kernel_rfl) ?_ _
    refine ⟨(w1.heap.size, w4.heap.size, (s9, (y1, l1, c1), (y2, l2, c2))), ?_, HE.out⟩
    simp only [puts, Act.put, zA, zB, zC, zD, zE, zF]
   exact AllReadyH.nil
  refine AllReadyH.cons (by rfl) (fun K hK => ?_) ?_
  ·go_simp
   obtain ⟨w6, hw6⟩ : ∃ w6, w6 = (W0.alloc (.cells (madeCells zMono (n * 4)) 51)).drew := ⟨_, rfl⟩
   rw [← hw6]
   have hal : Below W0.heap.size W0 w6 := by rw [hw6]; exact ((Below.refl _ _).alloc (Nat.le_refl _) _).drew
   have HB6 := Lib.hid (BR.kept HBW.out hal)
   have HG6 : Hid (OwnM w6 W0.heap.size n 0 []) := Lib.hid (by rw [hw6]; exact (own_madeM _ n).of_block rfl)
   have HGL6 : Hid (W0.heap.size ≤ W0.heap.size) := Lib.hid (Nat.le_refl _)
   clear hal hw6
   refine hK.out _ _ ?_ (fun hHeld => ?_)
   ·exact HK.out _ _ HB6.out
   clear hK K
   try simp only [Act.put, zA, zB, zC, zD, zE, zF]
   refine rdy [3, 9] ?_
   refine AllReadyH.cons (by rfl) (fun K hK => ?_) ?_
   ·go_simp
    refine (HC.out _ HB6.out).mono ?_
    rintro e w7 ⟨s9, y1, l1, c1, y2, l2, c2, rfl, hr7, hv7⟩
    have HG7 := Lib.hid (OwnM.bench HG6.out (BR.bench HB6.out) hr7.out)
    have HB7 := Lib.hid (BR.trans HB6.out hr7.out)
    have HV7 := Lib.hid hv7.out
    clear hr7 hv7
    refine hK.out _ _ ?_ (fun hHeld => ?_)
    ·exact HK.out _ _ HB7.out
    clear hK K
    try simp only [Act.put, zA, zB, zC, zD, zE, zF]
    refine tkV 8 hHeld ?_
    try simp only [Act.put, zA, zB, zC, zD, zE, zF]
    refine rdy [9] ?_
    refine AllReadyH.cons (by rfl) (fun K hK => ?_) AllReadyH.nil
    go_simp
    obtain ⟨w8, hw8⟩ : ∃ w8, w8 = w7.alloc (.cells #[.bool false, .slice none 0 0, .slice none 0 0, .slice none 0 0] 30) := ⟨_, rfl⟩
    rw [← hw8]
    have hal : Below w7.heap.size w7 w8 := by rw [hw8]; exact (Below.refl _ _).alloc (Nat.le_refl _) _
    have HV8 := Lib.hid (VQ.kept HV7.out hal)
    have HG8 := Lib.hid (OwnM.kept HG7.out hal)
    have HB8 := Lib.hid (BR.kept HB7.out hal)
    have HP8 : Hid (w8.heap[w7.heap.size]? = some (.cells #[.bool false, .slice none 0 0, .slice none 0 0, .slice none 0 0] 30 (0, 0))) := Lib.hid (by rw [hw8]; exact heap_alloc_new w7 _)
    have HPL8 : Hid (W0.heap.size ≤ w7.heap.size) := Lib.hid (BR.size HB7.out)
    clear hal hw8
    refine hK.out _ _ ?_ (fun hHeld => ?_)
    ·exact HK.out _ _ HB8.out
    clear hK K
    try simp only [Act.put, zA, zB, zC, zD, zE, zF]
    refine rdy [10] ?_
    refine AllReadyH.cons (by rfl) (fun K hK => ?_) AllReadyH.nil
    obtain ⟨q0, q1, q2, q3, f0, f1, f2, f3⟩ := cellsL4 HP8.out
    go_simp
    have HE := Lib.hid (ScAt.start HB8.out HT0.out HLT.out HV8.out HG8.out HP8.out HPL8.out HGL6.out)
    clear q0 q1 q2 q3 f0 f1 f2 f3
    refine hK.out _ _ ?_ (fun hHeld => ?_)
    ·exact HK.out _ _ (ScAt.r HE.out)
    clear hK K
    try simp only [Act.put, zA, zB, zC, zD, zE, zF]
    refine wpAnyH_done (by kernel_rfl) ?_ _
    refine ⟨(w7.heap.size, W0.heap.size, (s9, (y1, l1, c1), (y2, l2, c2))), ?_, HE.out⟩
    simp only [puts, Act.put, zA, zB, zC, zD, zE, zF]
   refine AllReadyH.cons (by rfl) (fun K hK => ?_) ?_
   ·go_simp
    obtain ⟨w9, hw9⟩ : ∃ w9, w9 = w6.alloc (.cells #[.bool false, .slice none 0 0, .slice none 0 0, .slice none 0 0] 30) := ⟨_, rfl⟩
    rw [← hw9]
    have hal : Below w6.heap.size w6 w9 := by rw [hw9]; exact (Below.refl _ _).alloc (Nat.le_refl _) _
    have HG9 := Lib.hid (OwnM.kept HG6.out hal)
    have HB9 := Lib.hid (BR.kept HB6.out hal)
    have HP9 : Hid (w9.heap[w6.heap.size]? = some (.cells #[.bool false, .slice none 0 0, .slice none 0 0, .slice none 0 0] 30 (0, 0))) := Lib.hid (by rw [hw9]; exact heap_alloc_new w6 _)
    have HPL9 : Hid (W0.heap.size ≤ w6.heap.size) := Lib.hid (BR.size HB6.out)
    clear hal hw9
    refine hK.out _ _ ?_ (fun hHeld => ?_)
    ·exact HK.out _ _ HB9.out
    clear hK K
    try simp only [Act.put, zA, zB, zC, zD, zE, zF]
    refine rdy [3] ?_
    refine AllReadyH.cons (by rfl) (fun K hK => ?_) AllReadyH.nil
    go_simp
    refine (HC.out _ HB9.out).mono ?_
    rintro e w10 ⟨s9, y1, l1, c1, y2, l2, c2, rfl, hr10, hv10⟩
    have HG10 := Lib.hid (OwnM.bench HG9.out (BR.bench HB9.out) hr10.out)
    have HP10 := Lib.hid (BR.block hr10.out HP9.out (by have := HLT.out; have := HPL9.out; omega))
    have HB10 := Lib.hid (BR.trans HB9.out hr10.out)
    have HV10 := Lib.hid hv10.out
    clear hr10 hv10
    refine hK.out _ _ ?_ (fun hHeld => ?_)
    ·exact HK.out _ _ HB10.out
    clear hK K
    try simp only [Act.put, zA, zB, zC, zD, zE, zF]
    refine tkV 8 hHeld ?_
    try simp only [Act.put, zA, zB, zC, zD, zE, zF]
    refine rdy [10] ?_
    refine AllReadyH.cons (by rfl) (fun K hK => ?_) AllReadyH.nil
    obtain ⟨q0, q1, q2, q3, f0, f1, f2, f3⟩ := cellsL4 HP10.out
    go_simp
    have HE := Lib.hid (ScAt.start HB10.out HT0.out HLT.out HV10.out HG10.out HP10.out HPL9.out HGL6.out)
    clear q0 q1 q2 q3 f0 f1 f2 f3
    refine hK.out _ _ ?_ (fun hHeld => ?_)
    ·exact HK.out _ _ (ScAt.r HE.out)
    clear hK K
    try simp only [Act.put, zA, zB, zC, zD, zE, zF]
    refine wpAnyH_done (by kernel_rfl) ?_ _
    refine ⟨(w6.heap.size, W0.heap.size, (s9, (y1, l1, c1), (y2, l2, c2))), ?_, HE.out⟩
    simp only [puts, Act.put, zA, zB, zC, zD, zE, zF]
   exact AllReadyH.nil
  refine AllReadyH.cons (by rfl) (fun K hK => ?_) ?_
  ·go_simp
   obtain ⟨w11, hw11⟩ : ∃ w11, w11 = (W0.alloc (.cells #[.bool false, .slice none 0 0, .slice none 0 0, .slice none 0 0] 30)).drew := ⟨_, rfl⟩
   rw [← hw11]
   have hal : Below W0.heap.size W0 w11 := by rw [hw11]; exact ((Below.refl _ _).alloc (Nat.le_refl _) _).drew
   have HB11 := Lib.hid (BR.kept HBW.out hal)
   have HP11 : Hid (w11.heap[W0.heap.size]? = some (.cells #[.bool false, .slice none 0 0, .slice none 0 0, .slice none 0 0] 30 (0, 0))) := Lib.hid (by rw [hw11]; exact heap_alloc_new W0 _)
   have HPL11 : Hid (W0.heap.size ≤ W0.heap.size) := Lib.hid (Nat.le_refl _)
   clear hal hw11
   refine hK.out _ _ ?_ (fun hHeld => ?_)
   ·exact HK.out _ _ HB11.out
   clear hK K
   try simp only [Act.put, zA, zB, zC, zD, zE, zF]
   refine rdy [3, 7] ?_
   refine AllReadyH.cons (by rfl) (fun K hK => ?_) ?_
   ·go_simp
    refine (HC.out _ HB11.out).mono ?_
    rintro e w12 ⟨s9, y1, l1, c1, y2, l2, c2, rfl, hr12, hv12⟩
    have HP12 := Lib.hid (BR.block hr12.out HP11.out (by have := HLT.out; have := HPL11.out; omega))
    have HB12 := Lib.hid (BR.trans HB11.out hr12.out)
    have HV12 := Lib.hid hv12.out
    clear hr12 hv12
    refine hK.out _ _ ?_ (fun hHeld => ?_)
    ·exact HK.out _ _ HB12.out
    clear hK K
    try simp only [Act.put, zA, zB, zC, zD, zE, zF]
    refine rdy [7] ?_
    refine AllReadyH.cons (by rfl) (fun K hK => ?_) AllReadyH.nil
    go_simp
    obtain ⟨w13, hw13⟩ : ∃ w13, w13 = w12.alloc (.cells (madeCells zMono (n * 4)) 51) := ⟨_, rfl⟩
    rw [← hw13]
    have hal : Below w12.heap.size w12 w13 := by rw [hw13]; exact (Below.refl _ _).alloc (Nat.le_refl _) _
    have HV13 := Lib.hid (VQ.kept HV12.out hal)
    have HP13 := Lib.hid (stayL HP12.out hal)
    have HB13 := Lib.hid (BR.kept HB12.out hal)
    have HG13 : Hid (OwnM w13 w12.heap.size n 0 []) := Lib.hid (by rw [hw13]; exact (own_madeM _ n).of_block rfl)
    have HGL13 : Hid (W0.heap.size ≤ w12.heap.size) := Lib.hid (BR.size HB12.out)
    clear hal hw13
    refine hK.out _ _ ?_ (fun hHeld => ?_)
    ·exact HK.out _ _ HB13.out
    clear hK K
    try simp only [Act.put, zA, zB, zC, zD, zE, zF]
    refine tkV 8 hHeld ?_
    try simp only [Act.put, zA, zB, zC, zD, zE, zF]
    refine rdy [10] ?_
    refine AllReadyH.cons (by rfl) (fun K hK => ?_) AllReadyH.nil
    obtain ⟨q0, q1, q2, q3, f0, f1, f2, f3⟩ := cellsL4 HP13.out
    go_simp
    have HE := Lib.hid (ScAt.start HB13.out HT0.out HLT.out HV13.out HG13.out HP13.out HPL11.out HGL13.out)
    clear q0 q1 q2 q3 f0 f1 f2 f3
    refine hK.out _ _ ?_ (fun hHeld => ?_)
    ·exact HK.out _ _ (ScAt.r HE.out)
    clear hK K
    try simp only [Act.put, zA, zB, zC, zD, zE, zF]
    refine wpAnyH_done (by kernel_rfl) ?_ _
    refine ⟨(W0.heap.size, w12.heap.size, (s9, (y1, l1, c1), (y2, l2, c2))), ?_, HE.out⟩
    simp only [puts, Act.put, zA, zB, zC, zD, zE, zF]
   refine AllReadyH.cons (by rfl) (fun K hK => ?_) ?_
   ·go_simp
    obtain ⟨w14, hw14⟩ : ∃ w14, w14 = w11.alloc (.cells (madeCells zMono (n * 4)) 51) := ⟨_, rfl⟩
    rw [← hw14]
    have hal : Below w11.heap.size w11 w14 := by rw [hw14]; exact (Below.refl _ _).alloc (Nat.le_refl _) _
    have HP14 := Lib.hid (stayL HP11.out hal)
    have HB14 := Lib.hid (BR.kept HB11.out hal)
    have HG14 : Hid (OwnM w14 w11.heap.size n 0 []) := Lib.hid (by rw [hw14]; exact (own_madeM _ n).of_block rfl)
    have HGL14 : Hid (W0.heap.size ≤ w11.heap.size) := Lib.hid (BR.size HB11.out)
    clear hal hw14
    refine hK.out _ _ ?_ (fun hHeld => ?_)
    ·exact HK.out _ _ HB14.out
    clear hK K
    try simp only [Act.put, zA, zB, zC, zD, zE, zF]
    refine rdy [3] ?_
    refine AllReadyH.cons (by rfl) (fun K hK => ?_) AllReadyH.nil
    go_simp
    refine (HC.out _ HB14.out).mono ?_
    rintro e w15 ⟨s9, y1, l1, c1, y2, l2, c2, rfl, hr15, hv15⟩
    have HG15 := Lib.hid (OwnM.bench HG14.out (BR.bench HB14.out) hr15.out)
    have HP15 := Lib.hid (BR.block hr15.out HP14.out (by have := HLT.out; have := HPL11.out; omega))
    have HB15 := Lib.hid (BR.trans HB14.out hr15.out)
    have HV15 := Lib.hid hv15.out
    clear hr15 hv15
    refine hK.out _ _ ?_ (fun hHeld => ?_)
    ·exact HK.out _ _ HB15.out
    clear hK K
    try simp only [Act.put, zA, zB, zC, zD, zE, zF]
    refine tkV 8 hHeld ?_
    try simp only [Act.put, zA, zB, zC, zD, zE, zF]
    refine rdy [10] ?_
    refine AllReadyH.cons (by rfl) (fun K hK => ?_) AllReadyH.nil
    obtain ⟨q0, q1, q2, q3, f0, f1, f2, f3⟩ := cellsL4 HP15.out
    go_simp
    have HE := Lib.hid (ScAt.start HB15.out HT0.out HLT.out HV15.out HG15.out HP15.out HPL11.out HGL14.out)
    clear q0 q1 q2 q3 f0 f1 f2 f3
    refine hK.out _ _ ?_ (fun hHeld => ?_)
    ·exact HK.out _ _ (ScAt.r HE.out)
    clear hK K
    try simp only [Act.put, zA, zB, zC, zD, zE, zF]
    refine wpAnyH_done (by kernel_rfl) ?_ _
    refine ⟨(W0.heap.size, w11.heap.size, (s9, (y1, l1, c1), (y2, l2, c2))), ?_, HE.out⟩
    simp only [puts, Act.put, zA, zB, zC, zD, zE, zF]
   exact AllReadyH.nil
  exact AllReadyH.nil
 rintro ⟨P, G, ⟨s9, ⟨y1, l1, c1⟩, ⟨y2, l2, c2⟩⟩⟩ w5 hS
 simp only [puts, Act.put, zA, zB, zC, zD, zE, zF]
 have HS5 := Lib.hid hS
 obtain ⟨p0, p1, p2, p3, _⟩ := cellsL4 (hS.r.block HBLK.out.1 (by have := HBLK.out.2.2.2.2.2.1; omega))
 clear hS HC
 go_wp2_with fail
 go_loopw [24] (fun (iv : Value) (wr : World) => ∃ (j : Nat) (ts : List RM), j ≤ n ∧ iv = .int .i64 (j : Int) ∧ Hid (ts.length ≤ j) ∧ Hid (ScAt W0 b m (o1 || scaleO m k (ms.take j)) P G n (s9, (y1, l1, c1), (y2, l2, c2)) (k * c) ts (scale k (ms.take j)) wr)) (fun iv _ => n - (intOf iv).toNat)
 case atStart =>
  refine ⟨0, [], Nat.zero_le _, rfl, Lib.hid (Nat.le_refl _), Lib.hid ?_⟩
  have : (o1 || scaleO m k (ms.take 0)) = o1 := by simp [scaleO]
  rw [this]
  exact HS5.out
 case round =>
  obtain ⟨j, ts, hjn, rfl, HTL, HS⟩ := hrel
  by_cases hlt : j < n
  ·obtain ⟨d, x, g, off, hd, hx, rfl, hok, hr⟩ := (HMS.out.1.bench HBB.out HS.out.r).get (k := j) (by have := HMS.out.1.len; have := HN.out; omega)
   have hzx := HMS.out.2.1 x (List.mem_of_getElem? hx)
   obtain ⟨v, s, z1, m1, k1, z2, m2, k2⟩ := d
   obtain ⟨xv, xq⟩ := x
   obtain ⟨hv, hq⟩ := hok
   dsimp only [RM.raw] at hv hq hzx
   subst hv
   have hal := (Below.refl wr.heap.size wr).alloc (Nat.le_refl _) (.cells #[.int .i64 v, .bool s, .slice z1 m1 k1, .slice z2 m2 k2] 51)
   have hS6 := HS.out.kept hal
   have HT6 := Lib.hid (HCA.out _ _ xq s z1 m1 k1 z2 m2 k2 hS6.r (hq.kept hal) hzx)
   have HS6 := Lib.hid hS6
   have hM : (wr.alloc (.cells #[.int .i64 v, .bool s, .slice z1 m1 k1, .slice z2 m2 k2] 51)).heap[wr.heap.size]? = some (.cells #[.int .i64 v, .bool s, .slice z1 m1 k1, .slice z2 m2 k2] 51 (0, 0)) := heap_alloc_new wr _
   obtain ⟨u0, u1, u2, u3, _⟩ := cellsL4 hM
   have HM := Lib.hid hM
   have HMG : Hid (W0.heap.size ≤ wr.heap.size ∧ P < wr.heap.size ∧ G < wr.heap.size) := Lib.hid ⟨HS.out.r.size, (Array.getElem?_eq_some_iff.1 HS.out.blk).1, HS.out.row.lt⟩
   have HX := Lib.hid hx
   have HZX := Lib.hid hzx
   have hji : (j : Int) < (n : Int) := by omega
   have hiw : wrap64 ((j : Int) + 1) = (j : Int) + 1 := IntWalk.wrap64_in _ (by have := HN.out; have := HMS.out.2.2; omega)
   have hr4 : wr.rangeAt g (off + j * 4) [.int .i64 v, .bool s, .slice z1 m1 k1, .slice z2 m2 k2] := hr
   clear hd hx hq hzx hal hS6 hM hr
   go_wp2_with (first | (refine wpList_val (.agg #[.int .i64 v, .bool s, .slice z1 m1 k1, .slice z2 m2 k2]) (run_load_op 51 (.tmp 26) (by with_reducible rfl) g (off + j * 4) (by rfl) _ _ hr4 Tryz.underlying51 rfl (by rw [size_mono]; rfl)) (by rfl) ?_) | (with_reducible refine wpList_alloc_agg rfl 51 rfl zMono zero_mono ?_) | (refine wpList_store_new rfl 51 (.tmp 10) (.tmp 27) (by with_reducible rfl) wr zMono #[.int .i64 v, .bool s, .slice z1 m1 k1, .slice z2 m2 k2] (by rfl) (by rfl) (by rfl) (by rw [size_mono]; rfl) (by rfl) (one_mono ⟨v, s, z1, m1, k1, z2, m2, k2⟩) ?_))
   refine HT6.out.mono ?_
   rintro e w7 ⟨s8, a1, f1, h1, a2, f2, h2, rfl, hr7, hv7⟩
   have hne7 : wr.heap.size ≠ b := by have := HLT.out; have := HMG.out.1; omega
   have hM7 := hr7.out.block HM.out hne7
   obtain ⟨hM8, hg8⟩ := mono_set (t := s8) (y1 := .slice a1 f1 h1) (y2 := .slice a2 f2 h2) hM7
   have hno7 := noLimbM hM7
   have hv8 := hv7.out.pastL hno7 hg8
   have hS7 := HS6.out.bench hr7.out (fun e => (Bool.or_eq_false_iff.1 e).1)
   have hS8 := hS7.past hg8 HMG.out.1 (by have := HMG.out.2.1; omega) (by have := HMG.out.2.2; omega) hno7
   obtain ⟨w8, hw8⟩ : ∃ w8, w8 = (((w7.setCell ⟨wr.heap.size, 1, none⟩ (.bool s8)).setCell ⟨wr.heap.size, 2, none⟩ (.slice a1 f1 h1)).setCell ⟨wr.heap.size, 3, none⟩ (.slice a2 f2 h2)) := ⟨_, rfl⟩
   rw [← hw8] at hM8 hv8 hS8
   have hzq : szQ (leftQ (o1 || scaleO m k (ms.take j) || ovQ m (k * xq)) (k * xq)) ≤ 1000000 := leftQ_sz (by have := szQ_mul k xq; have := HZ.out; have := HZX.out; omega)
   have HSG := Lib.hid (SignE (s := s8) (a2 := a2) (l2 := f2) (c2 := h2) (hv8.numE hzq))
   have HO8 : Hid ((o1 || scaleO m k (ms.take j) || ovQ m (k * xq)) = (o1 || scaleO m k (ms.take (j + 1)))) := Lib.hid (by rw [scaleO_take HX.out, Bool.or_assoc])
   rw [HO8.out] at hv8 hS8 HSG
   have HD8 : Hid ((o1 || scaleO m k (ms.take (j + 1))) = false → RM.ok ⟨v, s8, a1, f1, h1, a2, f2, h2⟩ (v, k * xq) w8) := Lib.hid fun e => ⟨rfl, by
    rw [e] at hv8
    exact hv8⟩
   have HS8 := Lib.hid hS8
   have HM8 := Lib.hid hM8
   have HW8 := Lib.hid hw8
   obtain ⟨e0, e1, e2, e3, n0, n1, n2, n3⟩ := cellsL4 hM7
   clear hr7 hv7 hne7 hM7 hM8 hg8 hno7 hv8 hS7 hS8 hzq hw8 HT6 HS6 HM u0 u1 u2 u3
   go_wp2_with fail
   rw [← HW8.out]
   refine HSG.out.mono ?_
   rintro e w9 ⟨x, rfl, hx0, hb9⟩
   have HS9 := Lib.hid (HS8.out.kept hb9.out)
   have HM9 := Lib.hid (stayL HM8.out hb9.out)
   have HD9 := Lib.hid (fun e => (HD8.out e).kept hb9.out)
   clear HSG HS8 HM8 HD8 hb9 HW8 e0 e1 e2 e3 n0 n1 n2 n3
   by_cases hz : mgQ (leftQ (o1 || scaleO m k (ms.take (j + 1))) (k * xq)) = 0
   ·have HFIN := Lib.hid (HS9.out.said (ms' := scale k (ms.take (j + 1))) fun e => by
     rw [e] at hz
     rw [scale_take HX.out, keep_none (q := k * xq) hz, List.append_nil])
    rw [decide_eq_true hz] at hx0
    clear hz
    go_wp2_with fail
    go_roundw
    case rel => exact ⟨j + 1, ts, by omega, by go_num, Lib.hid (by have := HTL.out; omega), HFIN⟩
    case measure => exact measure_next hiw hlt
   ·have ho := left_nz hz
    have HQ : Hid (scale k (ms.take j) ++ [(v, k * xq)] = scale k (ms.take (j + 1))) := Lib.hid (by
     rw [ho] at hz
     rw [scale_take HX.out, keep_some (q := k * xq) hz])
    have HHD := Lib.hid (HD9.out ho)
    rw [decide_eq_false hz] at hx0
    obtain ⟨_, _, _, p3, _⟩ := cellsL4 HS9.out.blk
    have hr9 := range4 HM9.out
    have hal := (Below.refl w9.heap.size w9).alloc (Nat.le_refl _) (.cells #[.int .i64 v, .bool s8, .slice a1 f1 h1, .slice a2 f2 h2] 51)
    have HS10 := Lib.hid (HS9.out.kept hal)
    have HD10 := Lib.hid (HHD.out.kept hal)
    have HNW : Hid (∀ (i : Nat) (u : Value), [Value.int .i64 v, .bool s8, .slice a1 f1 h1, .slice a2 f2 h2][i]? = some u → (w9.alloc (.cells #[.int .i64 v, .bool s8, .slice a1 f1 h1, .slice a2 f2 h2] 51)).cell? ((⟨w9.heap.size, 0, none⟩ : Addr).add i) = some u) := Lib.hid fun i u hu => by
     rw [Addr.add_mid]
     exact rangeAt_new w9 [.int .i64 v, .bool s8, .slice a1 f1 h1, .slice a2 f2 h2] _ i u hu
    have HOW := Lib.hid HS10.out.row
    have HPU := Lib.hid (fun w11 (h1' : OwnM w11 G n (ts.length + 1) (cellsM ts ++ [.int .i64 v, .bool s8, .slice a1 f1 h1, .slice a2 f2 h2])) h2' => HS10.out.push (x := (v, k * xq)) (fun _ => HD10.out) h1' h2')
    have HRM : Hid (ts.length + 1 ≤ n) := Lib.hid (by have := HTL.out; omega)
    have HON : Hid ((∀ u ∈ [Value.int .i64 v, .bool s8, .slice a1 f1 h1, .slice a2 f2 h2], u.oneCell' = true) ∧ (∀ u ∈ [Value.int .i64 v, .bool s8, .slice a1 f1 h1, .slice a2 f2 h2], GoodM u)) := Lib.hid ⟨by
     intro u hu
     simp only [List.mem_cons, List.not_mem_nil, or_false] at hu
     rcases hu with rfl | rfl | rfl | rfl <;> rfl, goodM_cells ⟨v, s8, a1, f1, h1, a2, f2, h2⟩⟩
    clear hz ho hal HM9 HD9 HS9 HHD
    go_wp2_with (first | (refine wpList_val (.agg #[.int .i64 v, .bool s8, .slice a1 f1 h1, .slice a2 f2 h2]) (run_load_op 51 (.tmp 10) (by with_reducible rfl) wr.heap.size 0 (by rfl) _ _ hr9 Tryz.underlying51 rfl (by rw [size_mono]; rfl)) (by rfl) ?_) | (at_builtin; refine wpList_appM rfl (.tmp 38) (.tmp 40) rfl G ts.length n (cellsM ts) (by rfl) HOW.out ⟨w9.heap.size, 0, none⟩ 1 1 [.int .i64 v, .bool s8, .slice a1 f1 h1, .slice a2 f2 h2] (by rfl) (by rfl) HNW.out HON.out.1 HON.out.2 HRM.out ?_; intro w11 hown hgr; obtain ⟨⟨hc3, hf3⟩, hS12⟩ := HPU.out w11 hown hgr; have HS12 := Lib.hid hS12; clear hown hgr hS12))
    go_roundw
    case rel => exact ⟨j + 1, ts ++ [⟨v, s8, a1, f1, h1, a2, f2, h2⟩], by omega, by go_num, Lib.hid (by have := HTL.out; simp; omega), Lib.hid (by rw [← HQ.out]; exact HS12.out)⟩
    case measure => exact measure_next hiw hlt
  ·obtain rfl : j = n := by omega
   have htk : ms.take j = ms := List.take_of_length_le (by have := HMS.out.1.len; have := HN.out; omega)
   rw [htk] at HS
   have hce := HS.out.r.cell HBLK.out.2.2.2.2.2.2 (by have := HBLK.out.2.2.2.2.2.1; omega)
   have HOV := Lib.hid (gotO_over HS.out.r.self)
   have HO1 : Hid ((o1 || scaleO m k ms) = (o1 || scaleO m k ms)) := Lib.hid rfl
   generalize (o1 || scaleO m k ms) = o2 at *
   clear htk HO1
   go_wp2_with fail
   refine HOV.out.mono ?_
   rintro e w13 ⟨rfl, hr13⟩
   have HS13 := Lib.hid (HS.out.bench hr13.out (fun e => e))
   obtain ⟨q0, q1, q2, q3, n0, n1, n2, n3⟩ := cellsL4 (HS13.out.r.block HBLK.out.2.1 (by have := HBLK.out.2.2.2.2.2.1; omega))
   clear HOV hce
   cases o2
   ·have HE := Lib.hid (fin_poly HBLK.out.2.2.2.1 HBLK.out.2.2.2.2.1 HBLK.out.2.2.2.2.2.1 (show w.heap.size ≤ w.heap.size + 1 + 1 + 1 by omega) (by have := HBLK.out.2.2.1; omega) (by have := HN.out; have := HMS.out.2.2; omega) HBLK.out.2.1 HS13.out)
    obtain ⟨r0, r1, r2, r3, _⟩ := cellsL4 HS13.out.blk
    clear HS13 HS hr13
    go_wp2_with fail
    exact bodyPost_ret (v := .agg #[.bool s9, .slice y1 l1 c1, .slice y2 l2 c2, .slice (some ⟨G, 0, none⟩) ts.length j]) (by simp [results, Tryz.results18, go_sem, q0, q1, q2, q3]) rfl HE.out
   ·have HE := Lib.hid (fin_zero (c := k * c) (ms := scale k ms) HBLK.out.2.2.2.1 HBLK.out.2.2.2.2.1 HBLK.out.2.2.2.2.2.1 (show w.heap.size ≤ w.heap.size + 1 + 1 + 1 by omega) HS13.out.r)
    clear HS13 HS hr13
    go_wp2_with fail
    exact bodyPost_ret (v := .agg #[.bool false, .slice none 0 0, .slice none 0 0, .slice none 0 0]) (by simp [results, Tryz.results18, go_sem, q0, q1, q2, q3]) rfl HE.out
end Go.Proofs.YtpjeecahaeaajaaGreatDoor

namespace Go.Proofs.YtpjeecahaeaajaaGreatDoor
open Go.RowKit Rep Ln
def meetO (m : Nat) (x : Mo) (r : List Mo) : Bool :=
 match r with
 | [] => ovQ m x.2
 | n :: _ => if n.1 = x.1 then ovQ m (x.2 + n.2) else ovQ m x.2
def mergeO (m : Nat) : List Mo → List Mo → Bool
 | [], _ => false
 | x :: l, more => meetO m x (more.dropWhile (below x)) || mergeO m l (step1 x more).2
section
variable {m : Nat} {x y : Mo} {l r : List Mo}
theorem merge_lower (h : y.1 < x.1) : merge (x :: l) (y :: r) = y :: merge (x :: l) r ∧ mergeO m (x :: l) (y :: r) = mergeO m (x :: l) r := by
 have hb : below x y = true := by simp [below, h]
 simp [merge, mergeO, step1, List.takeWhile_cons, List.dropWhile_cons, hb]
theorem merge_none : merge (x :: l) [] = keep x ++ merge l [] ∧ mergeO m (x :: l) [] = (ovQ m x.2 || mergeO m l []) := by
 simp [merge, mergeO, step1, meet, meetO]
theorem merge_meet (h : y.1 = x.1) : merge (x :: l) (y :: r) = keep (x.1, x.2 + y.2) ++ merge l r ∧ mergeO m (x :: l) (y :: r) = (ovQ m (x.2 + y.2) || mergeO m l r) := by
 have hb : below x y = false := by simp [below, h]
 simp [merge, mergeO, step1, meet, meetO, List.takeWhile_cons, List.dropWhile_cons, hb, h]
theorem merge_above (h : x.1 < y.1) : merge (x :: l) (y :: r) = keep x ++ merge l (y :: r) ∧ mergeO m (x :: l) (y :: r) = (ovQ m x.2 || mergeO m l (y :: r)) := by
 have hb : below x y = false := by simp [below]; omega
 have hne : ¬ y.1 = x.1 := by omega
 simp [merge, mergeO, step1, meet, meetO, List.takeWhile_cons, List.dropWhile_cons, hb, hne]
end
theorem app_nilM {w : World} {ty : TypeId} {g n cap : Nat} {xs : List Value} (hown : OwnM w g cap n xs) :
    (Builtin.append_ #[28, 28] ty #[.slice (some ⟨g, 0, none⟩) n cap, .slice none 0 0]).run Tryz.prog w = .ok (.slice (some ⟨g, 0, none⟩) n cap) w := by
 obtain ⟨i, i1, i2, i3, i4⟩ := info_partsM info_mono
 have hle := hown.le
 simp [Builtin.append_, run_underlying Tryz.underlying28, sizeOf, typeInfo, i1, Builtin.lenOf, hle, Builtin.firstCells, storeCells, Sem.run_pure]
section
variable {ops : Array Oper} {o : Oper} {a : Act} {w : World} {K : Act → World → Prop} {Q : Exit → Act → World → Prop} {rest : List Oper} {E : Prop}
theorem wpList_app_nilM (hgd0 : o.guard = none) (s x : Operand) (ho : o.op = .call { callee := .builtin .append, args := #[s, x], argTypes := #[28, 28] }) (g n cap : Nat) (xs : List Value) (hv : a.eval s = .slice (some ⟨g, 0, none⟩) n cap) (hown : OwnM w g cap n xs)
    (hx : a.eval x = .slice none 0 0) (h : wpList Tryz.prog ops Q rest (a.put o.dst (.slice (some ⟨g, 0, none⟩) n cap)) w) : wpList Tryz.prog ops Q (o :: rest) a w :=
 wpList_plain hgd0 fun _ hK => by
  have q1 := app_nilM (ty := o.type) hown
  unfold Oper.wp execOp
  simp only [ho, resolve, invoke, builtin, Sem.run_bind, Sem.run_pure, Result.andThen_ok, List.map_toArray, List.map_cons, List.map_nil, hv, hx, q1]
  exact hK _ _ h
end
theorem NumE.pastL {w w' : World} {g : Nat} {a : Option Addr} {l c n : Nat} (h : NumE w a l c n) (ho : NoLimb w g) (hg : w.grownBy w' (some g)) : NumE w' a l c n := by
 obtain ⟨xs, h1, h2, h3⟩ := h.ex
 refine ⟨xs, h1, h2, ⟨h3.lim, h3.reads.grown hg ?_, h3.le, h3.cap, h3.len⟩⟩
 rcases h3.reads with hr | ⟨r, off, rfl, hr⟩
 ·exact .inl hr
 ·by_cases e : xs = []
  ·exact .inl (by simp [e])
  ·refine .inr fun r' off' hg hb => ?_
   simp at hg hb
   obtain ⟨rfl, rfl⟩ := hg
   subst hb
   exact ho _ _ (hr 0 _ (map_getElem? (xs := xs) (f := u32v) (List.length_pos_iff.2 e)))
theorem ans_num {o : Bool} {q : Rat} {s : Bool} {a1 a2 : Option Addr} {l1 c1 l2 c2 : Nat} {W : World} (h : AnsQ o q (s, (a1, l1, c1), (a2, l2, c2)) W) (hs : szQ q ≤ 1000000) : ∃ nn, NumE W a1 l1 c1 nn ∧ (o = false → nn = mgQ q) ∧ (o = false → VQ q (s, (a1, l1, c1), (a2, l2, c2)) W) := by
 cases o
 ·exact ⟨mgQ q, (h.ok rfl).numE hs, fun _ => rfl, h.ok⟩
 ·obtain ⟨n, hn⟩ := h.nums.num
  exact ⟨n, hn, (by intro e; cases e), h.ok⟩
theorem left_num {o : Bool} {q : Rat} {s : Bool} {a1 a2 : Option Addr} {l1 c1 l2 c2 : Nat} {W : World} (h : VQ (leftQ o q) (s, (a1, l1, c1), (a2, l2, c2)) W) (hs : szQ q ≤ 1000000) : ∃ nn, NumE W a1 l1 c1 nn ∧ (o = false → nn = mgQ q) ∧ (o = false → VQ q (s, (a1, l1, c1), (a2, l2, c2)) W) := by
 refine ⟨_, h.numE (leftQ_sz hs), fun e => by rw [e]; rfl, fun e => ?_⟩
 rw [e] at h
 exact h
theorem range_cells {W : World} {g : Nat} : ∀ (rs : List RM) (off : Nat), (∀ (k : Nat) (d : RM), rs[k]? = some d → W.rangeAt g (off + k * 4) d.cells) → W.rangeAt g off (cellsM rs)
 | [], off, _ => fun i u hu => by simp [cellsM] at hu
 | d :: rs, off, h => fun i u hu => by
  have h0 := h 0 d (by simp)
  rw [Nat.zero_mul, Nat.add_zero] at h0
  have hl : d.cells.length = 4 := rfl
  have hc : cellsM (d :: rs) = d.cells ++ cellsM rs := by simp [cellsM]
  rw [hc] at hu
  by_cases hi : i < 4
  ·rw [List.getElem?_append_left (by omega)] at hu
   exact h0 i u hu
  ·rw [List.getElem?_append_right (by omega), hl] at hu
   have := range_cells rs (off + 4) (fun k d' hd => by
    have := h (k + 1) d' (by simpa using hd)
    rwa [show off + (k + 1) * 4 = off + 4 + k * 4 by omega] at this) (i - 4) u hu
   rwa [show off + 4 + (i - 4) = off + i by omega] at this
theorem MsAt.addr {W : World} {a : Option Addr} {rs : List RM} {ms : List Mo} (h : MsAt W a rs ms) {ax : Addr} (ha : a = some ax) : ∀ i u, (cellsM rs)[i]? = some u → W.cell? (ax.add i) = some u := by
 rcases h.mem with e | ⟨g, off, e, hr⟩
 ·subst e; intro i u hu; simp [cellsM] at hu
 ·rw [ha] at e
  cases e
  intro i u hu
  rw [Addr.add_mid]
  exact range_cells rs off hr i u hu
def sliceLen : Value → Nat
 | .slice _ n _ => n
 | _ => 0
theorem sliceLen_next {a a' : Option Addr} {n c c' : Nat} (h : 0 < n) : sliceLen (.slice a' (n - 1) c') < sliceLen (.slice a n c) := by
 show n - 1 < n
 omega
theorem drop_at {ms : List Mo} {j : Nat} {x : Mo} (h : ms[j]? = some x) : ms.drop j = x :: ms.drop (j + 1) := by
 obtain ⟨hl, rfl⟩ := List.getElem?_eq_some_iff.1 h
 exact List.drop_eq_getElem_cons hl
structure MgAt (w : World) (b m : Nat) (o : Bool) (G cap : Nat) (rs : List RM) (ms : List Mo) (W : World) : Prop where
 r : BR b m o w W
 gge : w.heap.size ≤ G
 lt0 : b < w.heap.size
 tab0 : Tab w
 row : OwnM W G cap rs.length (cellsM rs)
 vals : o = false → rs.length = ms.length ∧ ∀ (k : Nat) (d : RM) (x : Mo), rs[k]? = some d → ms[k]? = some x → d.ok x W
section
variable {w W W' : World} {b m G cap : Nat} {o p : Bool} {rs : List RM} {ms : List Mo}
theorem MgAt.kept (h : MgAt w b m o G cap rs ms W) (hb : Below W.heap.size W W') : MgAt w b m o G cap rs ms W' :=
 ⟨h.r.kept hb, h.gge, h.lt0, h.tab0, h.row.kept hb, fun e => ⟨(h.vals e).1, fun k d x h1 h2 => ((h.vals e).2 k d x h1 h2).kept hb⟩⟩
theorem MgAt.bench (h : MgAt w b m o G cap rs ms W) (k : BR b m p W W') (hop : p = false → o = false) : MgAt w b m p G cap rs ms W' :=
 ⟨h.r.trans k, h.gge, h.lt0, h.tab0, h.row.bench h.r.bench k, fun e => ⟨(h.vals (hop e)).1, fun i d x h1 h2 => ((h.vals (hop e)).2 i d x h1 h2).bench h.r.bench k⟩⟩
theorem MgAt.past {M : Nat} (h : MgAt w b m o G cap rs ms W) (hg : W.grownBy W' (some M)) (hM : w.heap.size ≤ M) (hG : G ≠ M) (hno : NoLimb W M) : MgAt w b m o G cap rs ms W' :=
 ⟨h.r.row h.tab0 h.lt0 hM hg, h.gge, h.lt0, h.tab0, h.row.past hg hG, fun e => ⟨(h.vals e).1, fun k d x h1 h2 => ((h.vals e).2 k d x h1 h2).past hno hg⟩⟩
theorem MgAt.push (h : MgAt w b m o G cap rs ms W) {ds : List RM} {xs : List Mo} (hd : o = false → ds.length = xs.length ∧ ∀ (k : Nat) (d : RM) (x : Mo), ds[k]? = some d → xs[k]? = some x → d.ok x W) (ho : OwnM W' G cap (rs.length + ds.length) (cellsM rs ++ cellsM ds)) (hg : W.grownBy W' (some G)) :
    MgAt w b m o G cap (rs ++ ds) (ms ++ xs) W' := by
 refine ⟨h.r.row h.tab0 h.lt0 h.gge hg, h.gge, h.lt0, h.tab0, by rw [List.length_append, cellsM_app]; exact ho, fun e => ?_⟩
 obtain ⟨hl, hv⟩ := h.vals e
 obtain ⟨dl, dv⟩ := hd e
 refine ⟨by rw [List.length_append, List.length_append, hl, dl], fun k d x h1 h2 => ?_⟩
 by_cases hk : k < rs.length
 ·rw [List.getElem?_append_left hk] at h1
  rw [List.getElem?_append_left (by rw [← hl]; exact hk)] at h2
  exact (hv k d x h1 h2).past h.row.noLimb hg
 ·rw [List.getElem?_append_right (by omega)] at h1
  rw [List.getElem?_append_right (by rw [← hl]; omega), ← hl] at h2
  exact (dv _ d x h1 h2).past h.row.noLimb hg
theorem MgAt.said {ms' : List Mo} (h : MgAt w b m o G cap rs ms W) (e : o = false → ms = ms') : MgAt w b m o G cap rs ms' W :=
 ⟨h.r, h.gge, h.lt0, h.tab0, h.row, fun ho => by rw [← e ho]; exact h.vals ho⟩
theorem MgAt.start {n : Nat} (hB : Bench w b m o) (hT : Tab w) : MgAt w b m o w.heap.size n [] [] (w.alloc (.cells (madeCells zMono (n * 4)) 51)) :=
 ⟨(BR.refl hB hT).kept ((Below.refl _ _).alloc (Nat.le_refl _) _), Nat.le_refl _, hB.lt, hT, own_madeM w n, fun _ => ⟨rfl, fun k d x h => by simp at h⟩⟩
end
structure MoreAt (w : World) (a : Option Addr) (c : Nat) (rs : List RM) (more : List Mo) : Prop where
 ms : MsAt w a rs more
 le : rs.length ≤ c
 max : c ≤ 1000000
 nil : a = none → rs = [] ∧ c = 0
theorem MoreAt.one {w : World} {a : Option Addr} {c : Nat} {rs : List RM} {x : Mo} {more : List Mo} (h : MoreAt w a c rs (x :: more)) : ∃ d rs' g off, rs = d :: rs' ∧ a = some ⟨g, off, none⟩ ∧ d.ok x w ∧ w.rangeAt g off d.cells ∧ 1 ≤ c ∧
    MoreAt w (some ⟨g, off + 4, none⟩) (c - 1) rs' more ∧ (c = 1 → MoreAt w (some ⟨g, off, none⟩) 0 rs' more) := by
 obtain ⟨d, m', rs', ms', rfl, e⟩ := h.ms.two (by simp)
 cases e
 obtain ⟨d', x', g, off, h1, h2, rfl, h4, h5⟩ := h.ms.get (k := 0) (by simp)
 simp at h1 h2
 subst h1 h2
 rw [Nat.zero_mul, Nat.add_zero] at h5
 have hle := h.le
 simp at hle
 have hd := h.ms.drop 1
 simp at hd
 have hmx := h.max
 refine ⟨d, rs', g, off, rfl, rfl, h4, h5, by omega, ⟨hd, by omega, by omega, fun e => by cases e⟩, fun e => ?_⟩
 have hz : rs' = [] := List.eq_nil_of_length_eq_zero (by omega)
 subst hz
 have hz2 : more = [] := by
  have := hd.len
  simp at this
  exact List.eq_nil_of_length_eq_zero (by omega)
 subst hz2
 exact ⟨MsAt.nil _ _, by simp, by omega, fun e => by cases e⟩
theorem MoreAt.kept {w w' : World} {a : Option Addr} {c : Nat} {rs : List RM} {more : List Mo} (h : MoreAt w a c rs more) (hb : Below w.heap.size w w') : MoreAt w' a c rs more := ⟨h.ms.kept hb, h.le, h.max, h.nil⟩
theorem MoreAt.bench {w w' : World} {a : Option Addr} {c : Nat} {rs : List RM} {more : List Mo} {b m : Nat} {o p : Bool} (h : MoreAt w a c rs more) (hB : Bench w b m o) (k : BR b m p w w') : MoreAt w' a c rs more := ⟨h.ms.bench hB k, h.le, h.max, h.nil⟩
def GotM (b m : Nat) (o : Bool) (W5 : World) (ms : List Mo) (e : Ending) (W' : World) : Prop :=
 ∃ G cp rs, e = .returned (.slice (some ⟨G, 0, none⟩) (List.length rs) cp) ∧ Hid (BR b m o W5 W') ∧ Hid (o = false → MsAt W' (some ⟨G, 0, none⟩) rs ms) ∧ rs.length ≤ cp ∧ cp ≤ 1000000
theorem MgAt.got {w W : World} {b m G cap : Nat} {o : Bool} {rs : List RM} {ms : List Mo} (h : MgAt w b m o G cap rs ms W) (hc : cap ≤ 1000000) : GotM b m o w ms (.returned (.slice (some ⟨G, 0, none⟩) rs.length cap)) W :=
 ⟨G, cap, rs, rfl, Lib.hid h.r, Lib.hid fun e => h.row.ms (h.vals e).1 (h.vals e).2, h.row.le, hc⟩
structure CurAt (w : World) (M G : Nat) (W : World) (v : Int) (s : Bool) (z1 : Option Addr) (m1 k1 : Nat) (z2 : Option Addr) (m2 k2 : Nat) : Prop where
 blk : W.heap[M]? = some (.cells #[.int .i64 v, .bool s, .slice z1 m1 k1, .slice z2 m2 k2] 51 (0, 0))
 ge : w.heap.size ≤ M
 ne : G ≠ M
section
variable {w W W' : World} {M G : Nat} {v : Int} {s : Bool} {z1 : Option Addr} {m1 k1 : Nat} {z2 : Option Addr} {m2 k2 : Nat}
theorem CurAt.kept (h : CurAt w M G W v s z1 m1 k1 z2 m2 k2) (hb : Below W.heap.size W W') : CurAt w M G W' v s z1 m1 k1 z2 m2 k2 := ⟨stayL h.blk hb, h.ge, h.ne⟩
theorem CurAt.row (h : CurAt w M G W v s z1 m1 k1 z2 m2 k2) (hg : W.grownBy W' (some G)) : CurAt w M G W' v s z1 m1 k1 z2 m2 k2 := ⟨(hg.block M (Array.getElem?_eq_some_iff.1 h.blk).1 (by have := h.ne; simp; omega)).trans h.blk, h.ge, h.ne⟩
theorem CurAt.bench {b m : Nat} {o : Bool} (h : CurAt w M G W v s z1 m1 k1 z2 m2 k2) (hb : b < w.heap.size) (k : BR b m o W W') : CurAt w M G W' v s z1 m1 k1 z2 m2 k2 := ⟨k.block h.blk (by have := h.ge; omega), h.ge, h.ne⟩
end
end Go.Proofs.YtpjeecahaeaajaaGreatDoor
