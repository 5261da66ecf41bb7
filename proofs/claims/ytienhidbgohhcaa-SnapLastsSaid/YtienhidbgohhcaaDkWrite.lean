/-
  Layer 5: Write, Flush, Crash.
-/
import Derived.Test.YtienhidbgohhcaaDkSet
import Derived.Test.YtienhidbgohhcaaDkBuild
set_option linter.unusedVariables false
set_option linter.unusedSimpArgs false
namespace Go.Proofs.Ytienhidbgohhcaa
open Go.RowKit

/-! ### append of one more, and whether the block is new -/
theorem run_append_new {P : Program} (w : World) (t ty e : TypeId) (z : Value) (size bts : Nat) (ht : P.underlying t = some (.slice e))
    (hi : (P.info? e).map (fun i => (i.zero, i.size, i.bytes)) = some (some z, size, bts)) (hz1 : z.cells.size = size) (hsz : 0 < size)
    (v : Value) (n : Nat) (xs : List Value) (hown : w.ownsRow 0 e size v n xs)
    (ad : Addr) (m c : Nat) (news : List Value) (hl : news.length = m * size) (hnews : ∀ j u, news[j]? = some u → w.cell? (ad.add j) = some u) (h1 : ∀ u ∈ news, u.oneCell' = true)
    (hmax : n + m ≤ maxLen) (hb : (n + m) * bts ≤ 140737488355328) :
    ∃ v' w', (Builtin.append_ #[t, t] ty #[v, .slice (some ad) m c]).run P w = .ok v' w' ∧ w'.ownsRow 0 e size v' (n + m) (xs ++ news) ∧ w.grownBy w' v.ownBlock ∧ (∀ j, v'.ownBlock = some j → v.ownBlock = some j ∨ w.heap.size ≤ j) := by
  obtain ⟨i, hi1, hi2, hi3, hi4⟩ : ∃ i, P.info? e = some i ∧ i.zero = some z ∧ i.size = size ∧ i.bytes = bts := by
    cases hq : P.info? e with
    | none => rw [hq] at hi; cases hi
    | some q => rw [hq] at hi; simp at hi; exact ⟨q, rfl, hi.1, hi.2.1, hi.2.2⟩
  rcases hown.2 with ⟨rfl, rfl⟩ | ⟨g, cap, cur, rfl, hbg, hg, hnc, hcm, hcs, htake⟩
  · obtain ⟨hx, _⟩ := hown
    have hx' : xs = [] := List.eq_nil_of_length_eq_zero (by simpa using hx)
    subst hx'
    obtain ⟨v', w', q1, q2, q3, _⟩ := run_append_own (P := P) w w.heap.size t ty e i z size bts ht hi1 hi2 hi3 hi4 hz1 hsz (.slice none 0 0) 0 [] (World.ownsRow_nil w _ _ _) ad m c news hl hnews h1 hmax hb (Nat.le_refl _)
    refine ⟨v', w', q1, ?_, q3, fun j hj => .inr (q2.lt j hj).1⟩
    obtain ⟨y1, y2 | ⟨g, cap, cur, y2, _, y3⟩⟩ := q2
    · exact ⟨y1, .inl y2⟩
    · exact ⟨y1, .inr ⟨g, cap, cur, y2, Nat.zero_le _, y3⟩⟩
  · obtain ⟨v', w', q1, q2, q3, _⟩ := run_append_own (P := P) w 0 t ty e i z size bts ht hi1 hi2 hi3 hi4 hz1 hsz _ n xs hown ad m c news hl hnews h1 hmax hb (Nat.zero_le _)
    refine ⟨v', w', q1, q2, q3, fun j hj => ?_⟩
    by_cases hroom : n + m ≤ cap
    · have hr := run_append_room (P := P) w t ty e i ht hi1 g n cap cur hg ad m c news (by rw [hi3]; exact hl) hnews h1 hroom (by rw [hl, hcs, hi3, ← Nat.add_mul]; exact Nat.mul_le_mul_right _ hroom)
      rw [q1] at hr
      cases hr
      exact .inl hj
    · have holds : ∀ j u, xs[j]? = some u → w.cell? ((⟨g, 0, none⟩ : Addr).add j) = some u := hown.cells (g := g) rfl
      have hr := run_append_grow (P := P) w t ty e i z ht hi1 hi2 ⟨g, 0, none⟩ n cap xs (by rw [hi3]; exact hown.1) holds ad m c news (by rw [hi3]; exact hl) hnews (by omega) (by unfold maxLen at hmax; omega) (growslice_fits (by omega) (by rw [hi4]; exact hb))
      rw [q1] at hr
      cases hr
      cases hj
      exact .inr (Nat.le_refl _)
theorem step_append_new {P : Program} {ops : Array Oper} {o : Oper} {a : Act} {w : World} {K : Act → World → Prop} {Q : Exit → Act → World → Prop} {E : Prop} (hgd : o.guard = none) (s x : Operand) (t : TypeId)
    (ho : o.op = .call { callee := .builtin .append, args := #[s, x], argTypes := #[t, t] }) (e : TypeId) (z : Value) (size bts : Nat) (ht : P.underlying t = some (.slice e))
    (hi : (P.info? e).map (fun i => (i.zero, i.size, i.bytes)) = some (some z, size, bts)) (hz1 : z.cells.size = size) (hsz : 0 < size)
    (v : Value) (n : Nat) (xs : List Value) (hs : a.eval s = v) (hown : w.ownsRow 0 e size v n xs)
    (ad : Addr) (m c : Nat) (news : List Value) (hx : a.eval x = .slice (some ad) m c) (hl : news.length = m * size) (hnews : ∀ j u, news[j]? = some u → w.cell? (ad.add j) = some u) (h1 : ∀ u ∈ news, u.oneCell' = true)
    (hmax : n + m ≤ maxLen) (hb : (n + m) * bts ≤ 140737488355328)
    (h : ∀ v' w', w'.ownsRow 0 e size v' (n + m) (xs ++ news) → w.grownBy w' v.ownBlock → (∀ j, v'.ownBlock = some j → v.ownBlock = some j ∨ w.heap.size ≤ j) → K (a.put o.dst v') w') :
    if Region.wanted o (yielded ops a.tmps) = true then Oper.wp P o a w K Q else E := by
  have hw : Region.wanted o (yielded ops a.tmps) = true := by simp [Region.wanted, hgd]
  rw [if_pos hw]
  obtain ⟨v', w', q1, q2, q3, q4⟩ := run_append_new (P := P) w t o.type e z size bts ht hi hz1 hsz v n xs hown ad m c news hl hnews h1 hmax hb
  unfold Oper.wp execOp
  simp only [ho, resolve, invoke, builtin, Sem.run_bind, Sem.run_pure, Result.andThen_ok, List.map_toArray, List.map_cons, List.map_nil, hs, hx, q1]
  exact h v' w' q2 q3 q4
theorem info_write : (Try.prog.info? 73).map (fun i => (i.zero, i.size, i.bytes)) = some (some (.agg (wcell (0, List.replicate 64 0)).toArray), 65, 72) := by kernel_rfl

/-! ### What a call on a disk does -/
/-- Behind a call: the disk is in this state; only its blocks have changed, and what waits is where it was, or new. -/
def Did (d s l : Nat) (v : Value) (n : Nat) (A : Dk.DV) (w : World) (e : Ending) (w' : World) : Prop :=
  e = .returned (.tuple #[]) ∧ ∃ v', DkAt w' d s l v' n A ∧ Chg (Foot d s l v) w w' ∧ ∀ k, v'.ownBlock = some k → v.ownBlock = some k ∨ w.heap.size ≤ k
theorem Settled.did {d s l n : Nat} {v : Value} {A : Dk.DV} {m : Nat → Nat} {w : World} {e : Ending} {w' : World} (h : Settled d s l n A m w e w') : Did d s l v n (A.settle m) w e w' :=
  ⟨h.1, _, h.2.1, h.2.2.mono fun k _ hk => by rcases hk with hk | hk | hk; exact .inl hk; exact .inr (.inl hk); exact .inr (.inr (.inl hk)), fun k hk => by cases hk⟩

section
variable {w : World} {d s l : Nat} {v : Value} {n : Nat} {A : Dk.DV}
theorem enters_all (args : Array Value) (w : World) : (callFunc 39 args).run Try.prog w = .ok (.enter 39 args) w := by
  have := Try.func39
  go_simp
theorem enters_much (args : Array Value) (w : World) : (callFunc 25 args).run Try.prog w = .ok (.enter 25 args) w := by
  have := Try.func25
  go_simp
theorem keepAll_any (h : DkAt w d s l v n A) : Calls Try.prog 31 #[.pointer (some ⟨d, 0, none⟩)] w (Did d s l v n (A.settle fun _ => 64) w) := by
  have HS := Lib.hid (settle_any h 39 #[] (fun _ => 64) (fun _ => Nat.le_refl _) enters_all (fun W k _ _ => all_any W k))
  clear h
  go_enter Try.func31, Try.ntmps31
  go_wp2_with fail
  refine HS.out.mono ?_
  intro e w' hp
  have HP := Lib.hid hp
  obtain ⟨rfl, _⟩ := hp
  clear HS
  go_wp2_with fail
  go_end0
  exact HP.out.did

theorem chg_drewN {S : Nat → Prop} {k : Nat} : Chg S w (w.drewN k) := ⟨rfl, rfl, rfl, Nat.le_refl _, fun _ _ _ => rfl⟩
/-- Another state: so many more were done. -/
def Dk.DV.bump (A : Dk.DV) : Dk.DV := { A with ops := A.ops + 1 }
theorem Did.bump {w' w1 : World} {A' : Dk.DV} (hc : Chg (fun _ => False) w w1) {v' : Value} (h1 : DkAt w' d s l v' n A') (h2 : Chg (Foot d s l v) w1 w') (h3 : ∀ k, v'.ownBlock = some k → v.ownBlock = some k ∨ w1.heap.size ≤ k) (hlt : ∀ k, Foot d s l v k → k < w.heap.size) :
    Did d s l v n A'.bump w (.returned (.tuple #[])) (w'.setCell ⟨d, 3, none⟩ (.int .i64 ((A'.ops : Int) + 1))) := by
  have hnd := h1.nds
  have q : Chg (fun j => j = d) w' (w'.setCell ⟨d, 3, none⟩ (.int .i64 ((A'.ops : Int) + 1))) := chg_setCell (S := fun j => j = d) rfl _ _ _
  refine ⟨rfl, v', ⟨?_, ?_, ?_, ?_, ⟨h1.fits.seen, h1.fits.last, h1.fits.wait, h1.fits.small⟩, h1.ne, h1.nv⟩, ((hc.mono fun _ _ h => h.elim).step h2).step (q.mono fun _ _ h => .inl h), fun k hk => ?_⟩
  · rw [heap_setCell_same w' d 3 _ _ _ h1.head]
    rfl
  · exact (q.block s (h1.lt s (.inr (.inl rfl))) (by omega)).trans h1.seen
  · exact (q.block l (h1.lt l (.inr (.inr (.inl rfl)))) (by omega)).trans h1.last
  · obtain ⟨z1, z2 | ⟨g, cap, cur, hv, hg, hh, r⟩⟩ := h1.wait
    · exact ⟨z1, .inl z2⟩
    · have hng := h1.nv g (by rw [hv]; rfl)
      exact ⟨z1, .inr ⟨g, cap, cur, hv, hg, (q.block g (h1.lt g (.inr (.inr (.inr (by rw [hv]; rfl))))) (by omega)).trans hh, r⟩⟩
  · rcases h3 k hk with h | h
    · exact .inl h
    · exact .inr (Nat.le_trans hc.size h)

set_option maxHeartbeats 1000000 in
theorem powered_dead (h : DkAt w d s l v n A) (hd : A.dead = true) (F : Value) : Calls Try.prog 30 #[.pointer (some ⟨d, 0, none⟩), F] w fun e w' => e = .returned (.tuple #[]) ∧ Chg (fun _ => False) w w' := by
  have HD := Lib.hid (Dead_any h)
  rw [hd] at HD
  clear h hd
  go_enter Try.func30, Try.ntmps30
  go_wp2_with fail
  refine HD.out.mono ?_
  rintro e w' ⟨rfl, k, rfl⟩
  clear HD
  go_wp2_with fail
  first | go_end0 | refine bodyPost_ret (results_none rfl _ _ _) rfl ?_
  exact ⟨rfl, chg_drewN⟩
set_option maxHeartbeats 1000000 in
theorem powered_live (h : DkAt w d s l v n A) (hd : A.dead = false) (fid : FuncId) (first cap : Array Value) (hent : ∀ args w, (callFunc fid args).run Try.prog w = .ok (.enter fid args) w) {A' : Dk.DV} (hA : A'.ops = A.ops) (ho : A.ops ≤ 1000000)
    (HC : ∀ W, Chg (fun _ => False) w W → DkAt W d s l v n A → Calls Try.prog fid (first ++ cap) W (Did d s l v n A' W)) :
    Calls Try.prog 30 #[.pointer (some ⟨d, 0, none⟩), .func (.func fid) first cap] w (Did d s l v n A'.bump w) := by
  have HD := Lib.hid (Dead_any h)
  rw [hd] at HD
  have HLT := Lib.hid h.lt
  have HC' := Lib.hid fun k => HC (w.drewN k) (chg_drewN) (h.kept ⟨rfl, rfl, rfl, Nat.le_refl _, fun _ _ => rfl⟩)
  clear h hd HC
  go_enter Try.func30, Try.ntmps30
  go_wp2_with fail
  refine HD.out.mono ?_
  rintro e w' ⟨rfl, k, rfl⟩
  clear HD
  go_wp2_with fail
  refine (HC'.out k).mono ?_
  rintro e w1 ⟨rfl, v', q1, q2, q3⟩
  obtain ⟨c0, c1, c2, c3, c4, f⟩ := q1.cells
  have HB := Lib.hid (Did.bump (chg_drewN) q1 q2 q3 HLT.out)
  have hz : IntKind.i64.wrap ((A'.ops : Int) + 1) = (A'.ops : Int) + 1 := by rw [hA]; exact IntWalk.i64_in _ (by omega)
  clear HC' q1 q2 q3 HLT hA
  generalize A'.ops = o at *
  go_wp2_with fail
  go_end0
  exact HB.out

/-- A write is put together, in a region. -/
theorem run_build_op {o : Oper} {a : Act} {w : World} (x y : Operand) (ho : o.op = .build 73 #[(0, x), (1, y)]) (i : Nat) (S : List Int) (hx : a.eval x = .int .i64 (i : Int)) (hy : a.eval y = .agg (bys S).toArray) (hS : S.length = 64) :
    (execOp a.eval o).run Try.prog w = .ok (.value (.agg (wcell (i, S)).toArray)) w := by
  have := run_build_write w i S hS
  unfold execOp
  simp [ho, hx, hy, this]
/-- A row of one is made, in a region. -/
theorem step_row_write {ops : Array Oper} {o : Oper} {a : Act} {w : World} {K : Act → World → Prop} {Q : Exit → Act → World → Prop} {E : Prop} (hgd : o.guard = none) (x : Operand) (ho : o.op = .buildSlice 41 1 #[(0, x)]) (C : Array Value) (hx : a.eval x = .agg C) (hC : C.size = 65)
    (h : K (a.put o.dst (.slice (some ⟨w.heap.size, 0, none⟩) 1 1)) (w.alloc (.cells C 73))) :
    if Region.wanted o (yielded ops a.tmps) = true then Oper.wp Try.prog o a w K Q else E := by
  have hw : Region.wanted o (yielded ops a.tmps) = true := by simp [Region.wanted, hgd]
  rw [if_pos hw]
  have := run_row_write w C hC
  unfold Oper.wp execOp
  simp [ho, hx, this]
  exact h
/-- The state behind a write, but for how many were done. -/
def Dk.DV.put (i : Nat) (S : List Int) (A : Dk.DV) : Dk.DV := { A with seen := splice A.seen (64 * i) S, wait := A.wait ++ [(i, S)] }
/-- The boxes of the closure that writes. -/
structure WBox (w : World) (d : Nat) (pS pd pi i : Nat) (S : List Int) : Prop where
  bs : w.heap[pS]? = some (.cells (bys S).toArray 57 (0, 0))
  bd : w.heap[pd]? = some (.cells #[.pointer (some ⟨d, 0, none⟩)] 25 (0, 0))
  bi : w.heap[pi]? = some (.cells #[.int .i64 (i : Int)] 3 (0, 0))
theorem WBox.kept {w' : World} {pS pd pi i : Nat} {S : List Int} (h : WBox w d pS pd pi i S) {B : Nat} (hb : ∀ k, B ≤ k → k < w.heap.size → w'.heap[k]? = w.heap[k]?) (h1 : B ≤ pS) (h2 : B ≤ pd) (h3 : B ≤ pi) : WBox w' d pS pd pi i S :=
  ⟨(hb pS h1 (Array.getElem?_eq_some_iff.1 h.bs).1).trans h.bs, (hb pd h2 (Array.getElem?_eq_some_iff.1 h.bd).1).trans h.bd, (hb pi h3 (Array.getElem?_eq_some_iff.1 h.bi).1).trans h.bi⟩

theorem put_done {w w6 : World} {v v' : Value} {i : Nat} {S : List Int} (h : DkAt w d s l v n A) (hi : i < n) (hS : S.length = 64) (hown : w6.ownsRow 0 73 65 v' (A.wait.length + 1) (wcells A.wait ++ wcell (i, S)))
    (hg : ((w.drew.setCells s (i * 64) (bys S)).drew.alloc (.cells (wcell (i, S)).toArray 73)).grownBy w6 v.ownBlock)
    (hn : ∀ j, v'.ownBlock = some j → v.ownBlock = some j ∨ ((w.drew.setCells s (i * 64) (bys S)).drew.alloc (.cells (wcell (i, S)).toArray 73)).heap.size ≤ j) :
    Did d s l v n (A.put i S) w (.returned (.tuple #[])) (w6.setCell ⟨d, 2, none⟩ v') := by
  have hnd := h.nds
  have hne := h.ne
  have hlt := h.lt
  have hlS : (bys S).length = 64 := by rw [bys_len, hS]
  have b2 := heap_setCells_same s 57 (bys S) (i * 64) w.drew _ h.seen (by rw [hlS, bys_len, h.fits.seen]; omega)
  rw [← bys_splice, Nat.mul_comm i 64] at b2
  rw [Nat.mul_comm i 64] at hg hn
  have q2 : Chg (fun j => j = s) w.drew (w.drew.setCells s (64 * i) (bys S)) := chg_setCells (S := fun j => j = s) rfl _ _ _
  have z2 : (w.drew.setCells s (64 * i) (bys S)).heap.size = w.heap.size := size_setCells _ _ _ _
  have q3 : Chg (fun _ => False) (w.drew.setCells s (64 * i) (bys S)) ((w.drew.setCells s (64 * i) (bys S)).drew.alloc (.cells (wcell (i, S)).toArray 73)) := Chg.drew.step (chg_alloc _ _)
  have q4 : Chg (fun j => v.ownBlock = some j) ((w.drew.setCells s (64 * i) (bys S)).drew.alloc (.cells (wcell (i, S)).toArray 73)) w6 := .of_grown hg fun k hk => hk
  have q5 : Chg (fun j => j = d) w6 (w6.setCell ⟨d, 2, none⟩ v') := chg_setCell (S := fun j => j = d) rfl _ _ _
  have z3 : w.heap.size ≤ ((w.drew.setCells s (64 * i) (bys S)).drew.alloc (.cells (wcell (i, S)).toArray 73)).heap.size := by have := q3.size; omega
  have z6 := q4.size
  have hv : ∀ k, v.ownBlock = some k → k ≠ s ∧ k ≠ l ∧ k ≠ d := h.nv
  have dd : ∀ k, k = d ∨ k = s ∨ k = l → ¬ v.ownBlock = some k := fun k hk e => by have := hv k e; omega
  have hd' : w6.heap[d]? = w.heap[d]? := by
    have := hlt d (.inl rfl)
    rw [q4.block d (by omega) (dd d (.inl rfl)), q3.block d (by omega) (fun h => h), q2.block d (by show d < w.heap.size; omega) (by omega), heap_drew']
  have hl' : w6.heap[l]? = w.heap[l]? := by
    have := hlt l (.inr (.inr (.inl rfl)))
    rw [q4.block l (by omega) (dd l (.inr (.inr rfl))), q3.block l (by omega) (fun h => h), q2.block l (by show l < w.heap.size; omega) (by omega), heap_drew']
  have hs' : w6.heap[s]? = some (.cells (bys (splice A.seen (64 * i) S)).toArray 57 (0, 0)) := by
    have := hlt s (.inr (.inl rfl))
    rw [q4.block s (by omega) (dd s (.inr (.inl rfl))), q3.block s (by omega) (fun h => h), b2]
  have hvn : ∀ k, v'.ownBlock = some k → k ≠ s ∧ k ≠ l ∧ k ≠ d := fun k hk => by
    rcases hn k hk with e | e
    · exact hv k e
    · have h1 := hlt d (.inl rfl)
      have h2 := hlt s (.inr (.inl rfl))
      have h3 := hlt l (.inr (.inr (.inl rfl)))
      omega
  refine ⟨rfl, v', ⟨?_, ?_, ?_, ?_, ?_, hne, hvn⟩, ?_, fun k hk => ?_⟩
  · rw [heap_setCell_same w6 d 2 _ _ _ (hd'.trans h.head)]
    rfl
  · rw [heap_setCell_other _ _ _ _ (by show s ≠ d; omega), hs']
    rfl
  · rw [heap_setCell_other _ _ _ _ (by show l ≠ d; omega), hl', h.last]
    rfl
  · have e1 : (A.put i S).wait = A.wait ++ [(i, S)] := rfl
    rw [e1, wcells_snoc, List.length_append, List.length_singleton]
    obtain ⟨y1, y2 | ⟨g, cap, cur, y2, y3, y4, y5⟩⟩ := hown
    · exact ⟨y1, .inl y2⟩
    · have hgd := hvn g (by rw [y2]; rfl)
      exact ⟨y1, .inr ⟨g, cap, cur, y2, y3, by rw [heap_setCell_other _ _ _ _ (by show g ≠ d; omega)]; exact y4, y5⟩⟩
  · have := (h.fits.write hi hS)
    exact ⟨this.seen, this.last, this.wait, this.small⟩
  · exact Chg.drew.step ((q2.mono fun _ _ h => .inr (.inl h)).step ((q3.mono fun _ _ h => h.elim).step ((q4.mono fun _ _ h => .inr (.inr (.inr h))).step (q5.mono fun _ _ h => .inl h))))
  · rcases hn k hk with e | e
    · exact .inl e
    · exact .inr (by omega)

set_option maxRecDepth 100000 in
set_option maxHeartbeats 4000000 in
theorem write1_any (h : DkAt w d s l v n A) {pS pd pi i : Nat} {S : List Int} (hi : i < n) (hS : S.length = 64) (hb : WBox w d pS pd pi i S) (hf : ∀ k, Foot d s l v k → k ≠ pS ∧ k ≠ pd ∧ k ≠ pi) (hw : A.wait.length ≤ 1000000) :
    Calls Try.prog 33 #[.pointer (some ⟨pS, 0, none⟩), .pointer (some ⟨pd, 0, none⟩), .pointer (some ⟨pi, 0, none⟩)] w (Did d s l v n (A.put i S) w) := by
  have HH := Lib.hid h
  have HB := Lib.hid hb
  obtain ⟨c0, c1, c2, c3, c4, f⟩ := (h.kept (show Below w.heap.size w w.drew from ⟨rfl, rfl, rfl, Nat.le_refl _, fun _ _ => rfl⟩)).cells
  have hnd := h.nds
  have hF := hf
  have n1 := hf d (.inl rfl)
  have n2 := hf s (.inr (.inl rfl))
  have r0 : w.drew.rangeAt pS 0 (bys S) := fun j u hu => by simpa [World.cell?, heap_drew', hb.bs] using hu
  have b1 : w.drew.cell? ⟨pd, 0, none⟩ = some (.pointer (some ⟨d, 0, none⟩)) := by simp [World.cell?, heap_drew', hb.bd]
  have b2 : w.drew.cell? ⟨pi, 0, none⟩ = some (.int .i64 (i : Int)) := by simp [World.cell?, heap_drew', hb.bi]
  have hsr : (Try.prog.info? 57).map (·.size) = some (bys S).length := by rw [bys_len, hS]; exact size_sector
  have hro : (bys S).toArray.all (·.oneCell') = true := all_oneCell_toArray (bys_one S)
  have dt2 : w.drew.there s (i * 64) (bys S).length := there_blk h.seen (i * 64) _ (by rw [bys_len, bys_len, hS, h.fits.seen]; omega)
  have er := World.rangeAt_setCells_apart r0 s (i * 64) (bys S) (.inl n2.1.symm)
  have e0 := World.cell?_setCells_out s (bys S) (i * 64) w.drew ⟨d, 0, none⟩ (fun h => absurd h (by dsimp only; omega))
  have e1 := World.cell?_setCells_out s (bys S) (i * 64) w.drew ⟨pd, 0, none⟩ (fun h => absurd h (by dsimp only; omega))
  have e2 := World.cell?_setCells_out s (bys S) (i * 64) w.drew ⟨pi, 0, none⟩ (fun h => absurd h (by dsimp only; omega))
  have e3 := World.cell?_setCells_out s (bys S) (i * 64) w.drew ⟨d, 2, none⟩ (fun h => absurd h (by dsimp only; omega))
  rw [c0] at e0
  rw [b1] at e1
  rw [b2] at e2
  rw [c2] at e3
  have f3 : ∀ o, (w.drew.setCells s (i * 64) (bys S)).frozen? ⟨d, o, none⟩ = false := fun o => by rw [World.frozen?_setCells]; exact f o
  have hns := h.fits.small
  have hi0 : (0 : Int) ≤ (i : Int) := by omega
  have HE := Lib.hid (And.intro e0 (And.intro e1 (And.intro e2 (And.intro er (And.intro e3 f3)))))
  have HF := Lib.hid hf
  have HSS := Lib.hid hS
  have HWL := Lib.hid hw
  clear e0 e1 e2 e3 er f3 hF hf h hb c1 c2 c3 c4 f hS hw
  go_enter Try.func33, Try.ntmps33
  go_wp2_with fail
  refine wp_region_held_drew (S := (fun w' => w'.cell? ⟨d, 0, none⟩ = some (.slice (some ⟨s, 0, none⟩) n n) ∧ w'.cell? ⟨pd, 0, none⟩ = some (.pointer (some ⟨d, 0, none⟩)) ∧ w'.cell? ⟨pi, 0, none⟩ = some (.int .i64 (i : Int)) ∧ w'.rangeAt pS 0 (bys S))) (by kernel_rfl) ?_ (fun hHeld => ?_)
  · exact ⟨c0, b1, b2, r0⟩
  refine wpAnyH_take (i := 0) (v := ?_) (by rfl) (by kernel_rfl) (by kernel_rfl) (by kernel_rfl) (by exact fun _ _ _ h => h) (Or.inl ⟨by rfl, ?_⟩) hHeld ?_
  rotate_left 1
  · intro w' hSw
    (try dsimp only at hSw)
    go_simp
    try with_reducible rfl
  try simp only [Act.put, List.setIfInBounds_toArray, List.set_cons_zero, List.set_cons_succ, List.getElem_toArray, List.getElem_cons_zero, List.getElem_cons_succ]
  refine wpAnyH_take (i := 1) (v := ?_) (by rfl) (by kernel_rfl) (by kernel_rfl) (by kernel_rfl) (by exact fun _ _ _ h => h) (Or.inl ⟨by rfl, ?_⟩) hHeld ?_
  rotate_left 1
  · intro w' hSw
    (try dsimp only at hSw)
    go_simp
    try with_reducible rfl
  try simp only [Act.put, List.setIfInBounds_toArray, List.set_cons_zero, List.set_cons_succ, List.getElem_toArray, List.getElem_cons_zero, List.getElem_cons_succ]
  refine wpAnyH_take (i := 2) (v := ?_) (by rfl) (by kernel_rfl) (by kernel_rfl) (by kernel_rfl) (by exact fun _ _ _ h => h) (Or.inl ⟨by rfl, ?_⟩) hHeld ?_
  rotate_left 1
  · intro w' hSw
    (try dsimp only at hSw)
    go_simp
    try with_reducible rfl
  try simp only [Act.put, List.setIfInBounds_toArray, List.set_cons_zero, List.set_cons_succ, List.getElem_toArray, List.getElem_cons_zero, List.getElem_cons_succ]
  refine wpAnyH_take (i := 3) (v := ?_) (by rfl) (by kernel_rfl) (by kernel_rfl) (by kernel_rfl) (by exact fun _ _ _ h => h) (Or.inl ⟨by rfl, ?_⟩) hHeld ?_
  rotate_left 1
  · intro w' hSw
    (try dsimp only at hSw)
    go_simp
    try with_reducible rfl
  try simp only [Act.put, List.setIfInBounds_toArray, List.set_cons_zero, List.set_cons_succ, List.getElem_toArray, List.getElem_cons_zero, List.getElem_cons_succ]
  refine wpAnyH_take (i := 4) (v := ?_) (by rfl) (by kernel_rfl) (by kernel_rfl) (by kernel_rfl) (by exact fun _ _ _ h => h) (Or.inl ⟨by rfl, ?_⟩) hHeld ?_
  rotate_left 1
  · intro w' hSw
    (try dsimp only at hSw)
    go_simp
    try with_reducible rfl
  try simp only [Act.put, List.setIfInBounds_toArray, List.set_cons_zero, List.set_cons_succ, List.getElem_toArray, List.getElem_cons_zero, List.getElem_cons_succ]
  refine wpAnyH_take (i := 5) (v := .agg (bys S).toArray) (by rfl) (by kernel_rfl) (by kernel_rfl) (by kernel_rfl) (by exact fun _ _ _ h => h) (Or.inl ⟨by rfl, ?_⟩) hHeld ?_
  · intro w' hSw
    exact run_load_op 57 (.tmp 0) rfl pS 0 rfl (bys S) _ hSw.2.2.2 Try.underlying57 rfl hsr
  try simp only [Act.put, List.setIfInBounds_toArray, List.set_cons_zero, List.set_cons_succ, List.getElem_toArray, List.getElem_cons_zero, List.getElem_cons_succ]
  refine wpAnyH_take (i := 6) (v := ?_) (by rfl) (by kernel_rfl) (by kernel_rfl) (by kernel_rfl) (by exact fun _ _ _ h => h) (Or.inl ⟨by rfl, ?_⟩) hHeld ?_
  rotate_left 1
  · intro w' hSw
    (try dsimp only at hSw)
    go_simp
    try with_reducible rfl
  try simp only [Act.put, List.setIfInBounds_toArray, List.set_cons_zero, List.set_cons_succ, List.getElem_toArray, List.getElem_cons_zero, List.getElem_cons_succ]
  refine wpAnyH_ready (rs := [7]) (by kernel_rfl) (by simp) ?_
  refine AllReadyH.cons (by rfl) (fun K hK => ?_) AllReadyH.nil
  refine step_store_mid rfl 57 (.tmp 9) (.tmp 8) rfl s (i * 64) (bys S).toArray rfl rfl (by simpa using dt2) (by rw [hsr]; simp) hro ?_
  refine hK.out _ _ ?_ (fun hHeld => ?_)
  · exact ⟨HE.out.1, HE.out.2.1, HE.out.2.2.1, HE.out.2.2.2.1⟩
  clear hK K
  try simp only [Act.put, List.setIfInBounds_toArray, List.set_cons_zero, List.set_cons_succ, List.getElem_toArray, List.getElem_cons_zero, List.getElem_cons_succ]
  refine wpAnyH_done (by kernel_rfl) ?_ _
  clear hHeld
  obtain ⟨W2, hW2⟩ : ∃ W2, W2 = w.drew.setCells s (i * 64) (bys S) := ⟨_, rfl⟩
  have HZ2 : Hid (W2.heap.size = w.heap.size) := Lib.hid (by rw [hW2]; exact size_setCells _ _ _ _)
  have HOW : Hid (W2.drew.ownsRow 0 73 65 v A.wait.length (wcells A.wait)) := Lib.hid (by
    have q2 : Chg (fun j => j = s) w.drew W2 := by rw [hW2]; exact chg_setCells (S := fun j => j = s) rfl _ _ _
    obtain ⟨y1, y2 | ⟨g, cap, cur, y2, y3, y4, y5⟩⟩ := HH.out.wait
    · exact ⟨y1, .inl y2⟩
    · have hgd := HH.out.nv g (by rw [y2]; rfl)
      exact ⟨y1, .inr ⟨g, cap, cur, y2, y3, (q2.block g (HH.out.lt g (.inr (.inr (.inr (by rw [y2]; rfl))))) (by omega)).trans y4, y5⟩⟩)
  rw [← hW2] at HE ⊢
  have HPD2 : Hid (∀ (w6 : World) (v' : Value), w6.ownsRow 0 73 65 v' (A.wait.length + 1) (wcells A.wait ++ wcell (i, S)) → (W2.drew.alloc (.cells (wcell (i, S)).toArray 73)).grownBy w6 v.ownBlock → (∀ j, v'.ownBlock = some j → v.ownBlock = some j ∨ (W2.drew.alloc (.cells (wcell (i, S)).toArray 73)).heap.size ≤ j) →
      Did d s l v n (A.put i S) w (.returned (.tuple #[])) (w6.setCell ⟨d, 2, none⟩ v')) := Lib.hid (by rw [hW2]; exact fun w6 v' => put_done HH.out hi HSS.out)
  obtain ⟨d0, d1, d2, dr, d3, f3⟩ := HE.out
  have e1 : W2.drew.cell? ⟨pd, 0, none⟩ = some (.pointer (some ⟨d, 0, none⟩)) := d1
  have e2 : W2.drew.cell? ⟨pi, 0, none⟩ = some (.int .i64 (i : Int)) := d2
  have e3 : W2.drew.cell? ⟨d, 2, none⟩ = some v := d3
  have er : W2.drew.rangeAt pS 0 (bys S) := dr
  have f4 : ∀ o, W2.drew.frozen? ⟨d, o, none⟩ = false := f3
  have hlt1 := HH.out.lt d (.inl rfl)
  have hpd := World.block_lt_of_cell? _ _ e1
  have hpi := World.block_lt_of_cell? _ _ e2
  have hdl := World.block_lt_of_cell? _ _ e3
  dsimp only at hpd hpi hdl
  clear d0 d1 d2 d3 dr f3 HE hW2 c0 b1 b2 r0 dt2
  go_wp2_with fail
  refine wp_region_held_drew (S := (fun w' => w'.cell? ⟨pd, 0, none⟩ = some (.pointer (some ⟨d, 0, none⟩)) ∧ w'.cell? ⟨pi, 0, none⟩ = some (.int .i64 (i : Int)) ∧ w'.rangeAt pS 0 (bys S))) (by kernel_rfl) ?_ (fun hHeld => ?_)
  · exact ⟨e1, e2, er⟩
  refine wpAnyH_take (i := 0) (v := ?_) (by rfl) (by kernel_rfl) (by kernel_rfl) (by kernel_rfl) (by exact fun _ _ _ h => h) (Or.inl ⟨by rfl, ?_⟩) hHeld ?_
  rotate_left 1
  · intro w' hSw
    (try dsimp only at hSw)
    go_simp
    try with_reducible rfl
  try simp only [Act.put, List.setIfInBounds_toArray, List.set_cons_zero, List.set_cons_succ, List.getElem_toArray, List.getElem_cons_zero, List.getElem_cons_succ]
  refine wpAnyH_take (i := 1) (v := ?_) (by rfl) (by kernel_rfl) (by kernel_rfl) (by kernel_rfl) (by exact fun _ _ _ h => h) (Or.inl ⟨by rfl, ?_⟩) hHeld ?_
  rotate_left 1
  · intro w' hSw
    (try dsimp only at hSw)
    go_simp
    try with_reducible rfl
  try simp only [Act.put, List.setIfInBounds_toArray, List.set_cons_zero, List.set_cons_succ, List.getElem_toArray, List.getElem_cons_zero, List.getElem_cons_succ]
  refine wpAnyH_take (i := 2) (v := ?_) (by rfl) (by kernel_rfl) (by kernel_rfl) (by kernel_rfl) (by exact fun _ _ _ h => h) (Or.inl ⟨by rfl, ?_⟩) hHeld ?_
  rotate_left 1
  · intro w' hSw
    (try dsimp only at hSw)
    go_simp
    try with_reducible rfl
  try simp only [Act.put, List.setIfInBounds_toArray, List.set_cons_zero, List.set_cons_succ, List.getElem_toArray, List.getElem_cons_zero, List.getElem_cons_succ]
  refine wpAnyH_take (i := 3) (v := ?_) (by rfl) (by kernel_rfl) (by kernel_rfl) (by kernel_rfl) (by exact fun _ _ _ h => h) (Or.inl ⟨by rfl, ?_⟩) hHeld ?_
  rotate_left 1
  · intro w' hSw
    (try dsimp only at hSw)
    go_simp
    try with_reducible rfl
  try simp only [Act.put, List.setIfInBounds_toArray, List.set_cons_zero, List.set_cons_succ, List.getElem_toArray, List.getElem_cons_zero, List.getElem_cons_succ]
  refine wpAnyH_take (i := 5) (v := ?_) (by rfl) (by kernel_rfl) (by kernel_rfl) (by kernel_rfl) (by exact fun _ _ _ h => h) (Or.inl ⟨by rfl, ?_⟩) hHeld ?_
  rotate_left 1
  · intro w' hSw
    (try dsimp only at hSw)
    go_simp
    try with_reducible rfl
  try simp only [Act.put, List.setIfInBounds_toArray, List.set_cons_zero, List.set_cons_succ, List.getElem_toArray, List.getElem_cons_zero, List.getElem_cons_succ]
  refine wpAnyH_take (i := 6) (v := .agg (bys S).toArray) (by rfl) (by kernel_rfl) (by kernel_rfl) (by kernel_rfl) (by exact fun _ _ _ h => h) (Or.inl ⟨by rfl, ?_⟩) hHeld ?_
  · intro w' hSw
    exact run_load_op 57 (.tmp 0) rfl pS 0 rfl (bys S) _ hSw.2.2 Try.underlying57 rfl hsr
  try simp only [Act.put, List.setIfInBounds_toArray, List.set_cons_zero, List.set_cons_succ, List.getElem_toArray, List.getElem_cons_zero, List.getElem_cons_succ]
  refine wpAnyH_take (i := 7) (v := .agg (wcell (i, S)).toArray) (by rfl) (by kernel_rfl) (by kernel_rfl) (by kernel_rfl) (by exact fun _ _ _ h => h) (Or.inl ⟨by rfl, ?_⟩) hHeld ?_
  · intro w' hSw
    exact run_build_op (.tmp 15) (.tmp 16) rfl i S rfl rfl HSS.out
  try simp only [Act.put, List.setIfInBounds_toArray, List.set_cons_zero, List.set_cons_succ, List.getElem_toArray, List.getElem_cons_zero, List.getElem_cons_succ]
  have ob1 : (W2.drew.alloc (.cells (wcell (i, S)).toArray 73)).cell? ⟨pd, 0, none⟩ = some (.pointer (some ⟨d, 0, none⟩)) := by rw [World.cell?_alloc_lt _ _ _ hpd]; exact e1
  have ob2 : (W2.drew.alloc (.cells (wcell (i, S)).toArray 73)).cell? ⟨pi, 0, none⟩ = some (.int .i64 (i : Int)) := by rw [World.cell?_alloc_lt _ _ _ hpi]; exact e2
  have ob3 : (W2.drew.alloc (.cells (wcell (i, S)).toArray 73)).cell? ⟨d, 2, none⟩ = some v := by rw [World.cell?_alloc_lt _ _ _ hdl]; exact e3
  have obf : (W2.drew.alloc (.cells (wcell (i, S)).toArray 73)).frozen? ⟨d, 2, none⟩ = false := by rw [World.frozen?_alloc_past _ _ _ hdl]; exact f4 2
  have obr : (W2.drew.alloc (.cells (wcell (i, S)).toArray 73)).rangeAt pS 0 (bys S) := World.rangeAt_alloc er _
  have hobn : ∀ j u, (wcell (i, S))[j]? = some u → (W2.drew.alloc (.cells (wcell (i, S)).toArray 73)).cell? ((⟨W2.heap.size, 0, none⟩ : Addr).add j) = some u := fun j u hu => by
    rw [Addr.add_mid, Nat.zero_add, show W2.heap.size = W2.drew.heap.size from rfl, cell_of_row _ _ j _ _ _ (heap_alloc_last W2.drew _)]
    simpa using hu
  have howa := HOW.out.alloc (.cells (wcell (i, S)).toArray 73)
  have h1c : ∀ u ∈ wcell (i, S), u.oneCell' = true := fun u hu => by
    simp only [wcell, List.mem_cons] at hu
    rcases hu with rfl | hu
    · rfl
    · exact bys_one S u hu
  have hlc : (wcell (i, S)).length = 65 := by simp [wcell, bys_len, HSS.out]
  have HOB := Lib.hid (And.intro ob1 (And.intro ob2 (And.intro ob3 (And.intro obf (And.intro obr (And.intro hobn (And.intro howa (And.intro h1c hlc))))))))
  clear ob1 ob2 ob3 obf obr hobn howa h1c hlc
  refine wpAnyH_ready (rs := [4, 8]) (by kernel_rfl) (by simp) ?_
  refine AllReadyH.cons (by rfl) (fun K hK => ?_) (AllReadyH.cons (by rfl) (fun K hK => ?_) AllReadyH.nil)
  · go_simp
    refine hK.out _ _ ?_ (fun hHeld => ?_)
    · exact ⟨e1, e2, er⟩
    clear hK K
    try simp only [Act.put, List.setIfInBounds_toArray, List.set_cons_zero, List.set_cons_succ, List.getElem_toArray, List.getElem_cons_zero, List.getElem_cons_succ]
    refine wpAnyH_ready (rs := [8]) (by kernel_rfl) (by simp) ?_
    refine AllReadyH.cons (by rfl) (fun K hK => ?_) AllReadyH.nil
    refine step_row_write rfl (.tmp 17) rfl (wcell (i, S)).toArray rfl (by simpa using HOB.out.2.2.2.2.2.2.2.2) ?_
    refine hK.out _ _ ?_ (fun hHeld => ?_)
    · exact ⟨HOB.out.1, HOB.out.2.1, HOB.out.2.2.2.2.1⟩
    clear hK K
    try simp only [Act.put, List.setIfInBounds_toArray, List.set_cons_zero, List.set_cons_succ, List.getElem_toArray, List.getElem_cons_zero, List.getElem_cons_succ]
    refine wpAnyH_ready (rs := [9]) (by kernel_rfl) (by simp) ?_
    refine AllReadyH.cons (by rfl) (fun K hK => ?_) AllReadyH.nil
    refine step_append_new rfl (.tmp 14) (.tmp 18) 41 rfl 73 _ 65 72 Try.underlying41 info_write (by simp [Value.cells, wcell, bys_len]) (by omega) v A.wait.length (wcells A.wait) rfl HOB.out.2.2.2.2.2.2.1 ⟨W2.heap.size, 0, none⟩ 1 1 (wcell (i, S)) rfl (by rw [HOB.out.2.2.2.2.2.2.2.2]) HOB.out.2.2.2.2.2.1 HOB.out.2.2.2.2.2.2.2.1 (by have := HWL.out; unfold maxLen; omega) (by have := HWL.out; omega) ?_
    intro v' w6 hown hgrw hnew
    obtain ⟨va', vc', rfl⟩ : ∃ a c, v' = .slice a (A.wait.length + 1) c := by
      obtain ⟨_, ⟨_, e⟩ | ⟨_, _, _, e, _⟩⟩ := hown
      · omega
      · exact ⟨_, _, e⟩
    have HEND := Lib.hid (HPD2.out w6 _ hown hgrw hnew)
    have hfv : ∀ k, v.ownBlock = some k → k ≠ pS ∧ k ≠ pd ∧ k ≠ pi := fun k hk => HF.out k (.inr (.inr (.inr hk)))
    have hvd : ∀ k, v.ownBlock = some k → k ≠ d := fun k hk => (HH.out.nv k hk).2.2
    have g1 := hgrw.cell HOB.out.1 (fun e => (hfv pd e.symm).2.1 rfl)
    have g2 := hgrw.cell HOB.out.2.1 (fun e => (hfv pi e.symm).2.2 rfl)
    have g3 := hgrw.cell HOB.out.2.2.1 (fun e => hvd d e.symm rfl)
    have gf : w6.frozen? ⟨d, 2, none⟩ = false := (World.frozen?_of_block (hgrw.block d (by have := World.block_lt_of_cell? _ _ HOB.out.2.2.1; exact this) (fun e => hvd d e.symm rfl))).trans HOB.out.2.2.2.1
    have gr : w6.rangeAt pS 0 (bys S) := fun j u hu => hgrw.cell (HOB.out.2.2.2.2.1 j u hu) (fun e => (hfv pS e.symm).1 rfl)
    have s1 : (w6.setCell ⟨d, 2, none⟩ (.slice va' (A.wait.length + 1) vc')).cell? ⟨pd, 0, none⟩ = some (.pointer (some ⟨d, 0, none⟩)) := by rw [World.cell?_setCell_far _ _ _ _ (by dsimp only; omega)]; exact g1
    have s2 : (w6.setCell ⟨d, 2, none⟩ (.slice va' (A.wait.length + 1) vc')).cell? ⟨pi, 0, none⟩ = some (.int .i64 (i : Int)) := by rw [World.cell?_setCell_far _ _ _ _ (by dsimp only; omega)]; exact g2
    have s3 : (w6.setCell ⟨d, 2, none⟩ (.slice va' (A.wait.length + 1) vc')).rangeAt pS 0 (bys S) := fun j u hu => by rw [World.cell?_setCell_far _ _ _ _ (by dsimp only; omega)]; exact gr j u hu
    have HS3 := Lib.hid (And.intro s1 (And.intro s2 s3))
    have HGR := Lib.hid gr
    clear s1 s2 s3 hown hgrw hnew hfv hvd gr
    refine hK.out _ _ ?_ (fun hHeld => ?_)
    · exact ⟨g1, g2, HGR.out⟩
    clear hK K
    try simp only [Act.put, List.setIfInBounds_toArray, List.set_cons_zero, List.set_cons_succ, List.getElem_toArray, List.getElem_cons_zero, List.getElem_cons_succ]
    refine wpAnyH_take (i := 10) (v := ?_) (by rfl) (by kernel_rfl) (by kernel_rfl) (by kernel_rfl) (by exact fun _ _ _ h => h) (Or.inl ⟨by rfl, ?_⟩) hHeld ?_
    rotate_left 1
    · intro w' hSw
      (try dsimp only at hSw)
      go_simp
      try with_reducible rfl
    try simp only [Act.put, List.setIfInBounds_toArray, List.set_cons_zero, List.set_cons_succ, List.getElem_toArray, List.getElem_cons_zero, List.getElem_cons_succ]
    refine wpAnyH_take (i := 11) (v := ?_) (by rfl) (by kernel_rfl) (by kernel_rfl) (by kernel_rfl) (by exact fun _ _ _ h => h) (Or.inl ⟨by rfl, ?_⟩) hHeld ?_
    rotate_left 1
    · intro w' hSw
      (try dsimp only at hSw)
      go_simp
      try with_reducible rfl
    try simp only [Act.put, List.setIfInBounds_toArray, List.set_cons_zero, List.set_cons_succ, List.getElem_toArray, List.getElem_cons_zero, List.getElem_cons_succ]
    refine wpAnyH_ready (rs := [12]) (by kernel_rfl) (by simp) ?_
    refine AllReadyH.cons (by rfl) (fun K hK => ?_) AllReadyH.nil
    go_simp
    refine hK.out _ _ ?_ (fun hHeld => ?_)
    · exact HS3.out
    clear hK K
    try simp only [Act.put, List.setIfInBounds_toArray, List.set_cons_zero, List.set_cons_succ, List.getElem_toArray, List.getElem_cons_zero, List.getElem_cons_succ]
    refine wpAnyH_done (by kernel_rfl) ?_ _
    clear hHeld
    go_wp2_with fail
    go_end0
    exact HEND.out
  · refine step_row_write rfl (.tmp 17) rfl (wcell (i, S)).toArray rfl (by simpa using HOB.out.2.2.2.2.2.2.2.2) ?_
    refine hK.out _ _ ?_ (fun hHeld => ?_)
    · exact ⟨HOB.out.1, HOB.out.2.1, HOB.out.2.2.2.2.1⟩
    clear hK K
    try simp only [Act.put, List.setIfInBounds_toArray, List.set_cons_zero, List.set_cons_succ, List.getElem_toArray, List.getElem_cons_zero, List.getElem_cons_succ]
    refine wpAnyH_ready (rs := [4]) (by kernel_rfl) (by simp) ?_
    refine AllReadyH.cons (by rfl) (fun K hK => ?_) AllReadyH.nil
    have ob3 : (W2.alloc (.cells (wcell (i, S)).toArray 73)).cell? ⟨d, 2, none⟩ = some v := HOB.out.2.2.1
    go_simp
    refine hK.out _ _ ?_ (fun hHeld => ?_)
    · exact ⟨HOB.out.1, HOB.out.2.1, HOB.out.2.2.2.2.1⟩
    clear hK K
    try simp only [Act.put, List.setIfInBounds_toArray, List.set_cons_zero, List.set_cons_succ, List.getElem_toArray, List.getElem_cons_zero, List.getElem_cons_succ]
    refine wpAnyH_ready (rs := [9]) (by kernel_rfl) (by simp) ?_
    refine AllReadyH.cons (by rfl) (fun K hK => ?_) AllReadyH.nil
    refine step_append_new rfl (.tmp 14) (.tmp 18) 41 rfl 73 _ 65 72 Try.underlying41 info_write (by simp [Value.cells, wcell, bys_len]) (by omega) v A.wait.length (wcells A.wait) rfl HOB.out.2.2.2.2.2.2.1 ⟨W2.heap.size, 0, none⟩ 1 1 (wcell (i, S)) rfl (by rw [HOB.out.2.2.2.2.2.2.2.2]) HOB.out.2.2.2.2.2.1 HOB.out.2.2.2.2.2.2.2.1 (by have := HWL.out; unfold maxLen; omega) (by have := HWL.out; omega) ?_
    intro v' w6 hown hgrw hnew
    obtain ⟨va', vc', rfl⟩ : ∃ a c, v' = .slice a (A.wait.length + 1) c := by
      obtain ⟨_, ⟨_, e⟩ | ⟨_, _, _, e, _⟩⟩ := hown
      · omega
      · exact ⟨_, _, e⟩
    have HEND := Lib.hid (HPD2.out w6 _ hown hgrw hnew)
    have hfv : ∀ k, v.ownBlock = some k → k ≠ pS ∧ k ≠ pd ∧ k ≠ pi := fun k hk => HF.out k (.inr (.inr (.inr hk)))
    have hvd : ∀ k, v.ownBlock = some k → k ≠ d := fun k hk => (HH.out.nv k hk).2.2
    have g1 := hgrw.cell HOB.out.1 (fun e => (hfv pd e.symm).2.1 rfl)
    have g2 := hgrw.cell HOB.out.2.1 (fun e => (hfv pi e.symm).2.2 rfl)
    have g3 := hgrw.cell HOB.out.2.2.1 (fun e => hvd d e.symm rfl)
    have gf : w6.frozen? ⟨d, 2, none⟩ = false := (World.frozen?_of_block (hgrw.block d (by have := World.block_lt_of_cell? _ _ HOB.out.2.2.1; exact this) (fun e => hvd d e.symm rfl))).trans HOB.out.2.2.2.1
    have gr : w6.rangeAt pS 0 (bys S) := fun j u hu => hgrw.cell (HOB.out.2.2.2.2.1 j u hu) (fun e => (hfv pS e.symm).1 rfl)
    have s1 : (w6.setCell ⟨d, 2, none⟩ (.slice va' (A.wait.length + 1) vc')).cell? ⟨pd, 0, none⟩ = some (.pointer (some ⟨d, 0, none⟩)) := by rw [World.cell?_setCell_far _ _ _ _ (by dsimp only; omega)]; exact g1
    have s2 : (w6.setCell ⟨d, 2, none⟩ (.slice va' (A.wait.length + 1) vc')).cell? ⟨pi, 0, none⟩ = some (.int .i64 (i : Int)) := by rw [World.cell?_setCell_far _ _ _ _ (by dsimp only; omega)]; exact g2
    have s3 : (w6.setCell ⟨d, 2, none⟩ (.slice va' (A.wait.length + 1) vc')).rangeAt pS 0 (bys S) := fun j u hu => by rw [World.cell?_setCell_far _ _ _ _ (by dsimp only; omega)]; exact gr j u hu
    have HS3 := Lib.hid (And.intro s1 (And.intro s2 s3))
    have HGR := Lib.hid gr
    clear s1 s2 s3 hown hgrw hnew hfv hvd gr
    refine hK.out _ _ ?_ (fun hHeld => ?_)
    · exact ⟨g1, g2, HGR.out⟩
    clear hK K
    try simp only [Act.put, List.setIfInBounds_toArray, List.set_cons_zero, List.set_cons_succ, List.getElem_toArray, List.getElem_cons_zero, List.getElem_cons_succ]
    refine wpAnyH_take (i := 10) (v := ?_) (by rfl) (by kernel_rfl) (by kernel_rfl) (by kernel_rfl) (by exact fun _ _ _ h => h) (Or.inl ⟨by rfl, ?_⟩) hHeld ?_
    rotate_left 1
    · intro w' hSw
      (try dsimp only at hSw)
      go_simp
      try with_reducible rfl
    try simp only [Act.put, List.setIfInBounds_toArray, List.set_cons_zero, List.set_cons_succ, List.getElem_toArray, List.getElem_cons_zero, List.getElem_cons_succ]
    refine wpAnyH_take (i := 11) (v := ?_) (by rfl) (by kernel_rfl) (by kernel_rfl) (by kernel_rfl) (by exact fun _ _ _ h => h) (Or.inl ⟨by rfl, ?_⟩) hHeld ?_
    rotate_left 1
    · intro w' hSw
      (try dsimp only at hSw)
      go_simp
      try with_reducible rfl
    try simp only [Act.put, List.setIfInBounds_toArray, List.set_cons_zero, List.set_cons_succ, List.getElem_toArray, List.getElem_cons_zero, List.getElem_cons_succ]
    refine wpAnyH_ready (rs := [12]) (by kernel_rfl) (by simp) ?_
    refine AllReadyH.cons (by rfl) (fun K hK => ?_) AllReadyH.nil
    go_simp
    refine hK.out _ _ ?_ (fun hHeld => ?_)
    · exact HS3.out
    clear hK K
    try simp only [Act.put, List.setIfInBounds_toArray, List.set_cons_zero, List.set_cons_succ, List.getElem_toArray, List.getElem_cons_zero, List.getElem_cons_succ]
    refine wpAnyH_done (by kernel_rfl) ?_ _
    clear hHeld
    go_wp2_with fail
    go_end0
    exact HEND.out
theorem enters_write (args : Array Value) (w : World) : (callFunc 33 args).run Try.prog w = .ok (.enter 33 args) w := by
  have := Try.func33
  go_simp
theorem enters_keep (args : Array Value) (w : World) : (callFunc 31 args).run Try.prog w = .ok (.enter 31 args) w := by
  have := Try.func31
  go_simp
/-- The state behind a write, a flush. -/
def Dk.DV.writes (i : Nat) (S : List Int) (A : Dk.DV) : Dk.DV := if A.dead then A else A.write i S
def Dk.DV.flushes (A : Dk.DV) : Dk.DV := if A.dead then A else A.flush
theorem Did.still {w' : World} (h : DkAt w d s l v n A) (hc : Chg (fun _ => False) w w') : Did d s l v n A w (.returned (.tuple #[])) w' :=
  ⟨rfl, v, h.apart hc (fun _ _ h => h), hc.mono fun _ _ h => h.elim, fun k hk => .inl hk⟩
theorem Did.behind {w' w1 : World} {e : Ending} {A' : Dk.DV} (hc : Chg (fun _ => False) w w1) (h : Did d s l v n A' w1 e w') : Did d s l v n A' w e w' := by
  obtain ⟨h0, v', h1, h2, h3⟩ := h
  exact ⟨h0, v', h1, (hc.mono fun _ _ h => h.elim).step h2, fun k hk => (h3 k hk).imp id fun e => Nat.le_trans hc.size e⟩
/-- What Write answers, and does. -/
def Wrote (d s l : Nat) (v : Value) (n : Nat) (A : Dk.DV) (w : World) (e : Ending) (w' : World) : Prop := e = .returned (.int .i64 0) ∧ Did d s l v n A w (.returned (.tuple #[])) w'
def WroteNo (w : World) (e : Ending) (w' : World) : Prop := e = .returned (.int .i64 2) ∧ Chg (fun _ => False) w w'

set_option maxHeartbeats 1000000 in
theorem Write_no (h : DkAt w d s l v n A) {i : Int} {S : List Int} (hi : i < 0 ∨ (n : Int) ≤ i) :
    Calls Try.prog 21 #[.pointer (some ⟨d, 0, none⟩), .int .i64 i, .agg (bys S).toArray] w (WroteNo w) := by
  obtain ⟨W3, hW3⟩ : ∃ W3, W3 = ((w.alloc (.cells #[.pointer (some ⟨d, 0, none⟩)] 25)).alloc (.cells #[.int .i64 i] 3)).alloc (.cells (bys S).toArray 57) := ⟨_, rfl⟩
  have hc3 : Chg (fun _ => False) w W3 := by rw [hW3]; exact ((chg_alloc _ _).step (chg_alloc _ _)).step (chg_alloc _ _)
  have HN := Lib.hid (has_no (h.apart hc3 (fun _ _ h => h)) i hi)
  have HC3 := Lib.hid hc3
  have HW3 := Lib.hid hW3
  clear h hi hc3 hW3
  go_enter Try.func21, Try.ntmps21
  go_wp2_with (with_reducible refine wpList_box_agg rfl 57 (.tmp 2) rfl (bys S).toArray rfl ?_)
  rw [← HW3.out]
  refine HN.out.mono ?_
  rintro e w' ⟨rfl, rfl⟩
  clear HN
  go_wp2_with fail
  go_ret
  exact ⟨rfl, HC3.out⟩
set_option maxHeartbeats 2000000 in
theorem Write_yes (h : DkAt w d s l v n A) {i : Nat} {S : List Int} (hi : i < n) (hS : S.length = 64) (hw : A.wait.length ≤ 1000000) (ho : A.ops ≤ 1000000) :
    Calls Try.prog 21 #[.pointer (some ⟨d, 0, none⟩), .int .i64 (i : Int), .agg (bys S).toArray] w (Wrote d s l v n (A.writes i S) w) := by
  obtain ⟨W3, hW3⟩ : ∃ W3, W3 = ((w.alloc (.cells #[.pointer (some ⟨d, 0, none⟩)] 25)).alloc (.cells #[.int .i64 (i : Int)] 3)).alloc (.cells (bys S).toArray 57) := ⟨_, rfl⟩
  have hc3 : Chg (fun _ => False) w W3 := by rw [hW3]; exact ((chg_alloc _ _).step (chg_alloc _ _)).step (chg_alloc _ _)
  have h3 := h.apart hc3 (fun _ _ h => h)
  have hbx : WBox W3 d (w.heap.size + 1 + 1) w.heap.size (w.heap.size + 1) i S := by
    rw [hW3]
    refine ⟨?_, ?_, ?_⟩
    · have := heap_alloc_last ((w.alloc (.cells #[.pointer (some ⟨d, 0, none⟩)] 25)).alloc (.cells #[.int .i64 (i : Int)] 3)) (.cells (bys S).toArray 57)
      simpa using this
    · rw [Below.heap_alloc _ _ _ (by simp; omega), Below.heap_alloc _ _ _ (by simp)]
      exact heap_alloc_last w _
    · rw [Below.heap_alloc _ _ _ (by simp)]
      have := heap_alloc_last (w.alloc (.cells #[.pointer (some ⟨d, 0, none⟩)] 25)) (.cells #[.int .i64 (i : Int)] 3)
      simpa using this
  have hz3 : W3.heap.size = w.heap.size + 1 + 1 + 1 := by rw [hW3]; simp
  have hfo : ∀ k, Foot d s l v k → k ≠ w.heap.size + 1 + 1 ∧ k ≠ w.heap.size ∧ k ≠ w.heap.size + 1 := fun k hk => by have := h.lt k hk; omega
  have HN := Lib.hid (has_yes h3 i hi)
  have HDD : Hid (A.dead = true → ∀ F, Calls Try.prog 30 #[.pointer (some ⟨d, 0, none⟩), F] W3 fun e w' => e = .returned (.tuple #[]) ∧ Chg (fun _ => False) W3 w') := Lib.hid fun e F => powered_dead h3 e F
  have HDL : Hid (A.dead = false → Calls Try.prog 30 #[.pointer (some ⟨d, 0, none⟩), .func (.func 33) #[] #[.pointer (some ⟨w.heap.size + 1 + 1, 0, none⟩), .pointer (some ⟨w.heap.size, 0, none⟩), .pointer (some ⟨w.heap.size + 1, 0, none⟩)]] W3 (Did d s l v n (A.write i S) W3)) := Lib.hid fun e =>
    powered_live h3 e _ #[] _ enters_write (A' := A.put i S) rfl ho fun W hc hW => write1_any hW hi hS ⟨(hc.block _ (by omega) (fun h => h)).trans hbx.bs, (hc.block _ (by omega) (fun h => h)).trans hbx.bd, (hc.block _ (by omega) (fun h => h)).trans hbx.bi⟩ hfo hw
  have b1 : W3.cell? ⟨w.heap.size, 0, none⟩ = some (.pointer (some ⟨d, 0, none⟩)) := by simp [World.cell?, hbx.bd]
  have HH := Lib.hid h
  have HC3 := Lib.hid hc3
  have HW3 := Lib.hid hW3
  clear h h3 hi hc3 hbx hz3 hfo hS hw ho hW3
  unfold Dk.DV.writes
  cases hd : A.dead
  · have HP := Lib.hid (HDL.out hd)
    clear HDD HDL hd
    rw [if_neg (by simp)]
    go_enter Try.func21, Try.ntmps21
    go_wp2_with (with_reducible refine wpList_box_agg rfl 57 (.tmp 2) rfl (bys S).toArray rfl ?_)
    rw [← HW3.out]
    refine HN.out.mono ?_
    rintro e w' ⟨rfl, rfl⟩
    clear HN
    go_wp2_with fail
    refine HP.out.mono ?_
    intro e w1 hp
    have HPP := Lib.hid hp
    obtain ⟨rfl, _⟩ := hp
    clear HP
    go_wp2_with fail
    go_ret
    exact ⟨rfl, .behind HC3.out HPP.out⟩
  · have HP := Lib.hid (HDD.out hd)
    clear HDD HDL hd
    rw [if_pos rfl]
    go_enter Try.func21, Try.ntmps21
    go_wp2_with (with_reducible refine wpList_box_agg rfl 57 (.tmp 2) rfl (bys S).toArray rfl ?_)
    rw [← HW3.out]
    refine HN.out.mono ?_
    rintro e w' ⟨rfl, rfl⟩
    clear HN
    go_wp2_with fail
    refine (HP.out _).mono ?_
    rintro e w1 ⟨rfl, hc⟩
    have HPP := Lib.hid hc
    clear HP hc
    go_wp2_with fail
    go_ret
    exact ⟨rfl, .still HH.out (HC3.out.step HPP.out)⟩
set_option maxHeartbeats 1000000 in
theorem Flush_any (h : DkAt w d s l v n A) (ho : A.ops ≤ 1000000) : Calls Try.prog 20 #[.pointer (some ⟨d, 0, none⟩)] w (Did d s l v n A.flushes w) := by
  have HH := Lib.hid h
  unfold Dk.DV.flushes
  cases hd : A.dead
  · have HP := Lib.hid (powered_live h hd 31 #[.pointer (some ⟨d, 0, none⟩)] #[] enters_keep (A' := A.settle fun _ => 64) rfl ho (fun W _ hW => keepAll_any hW))
    clear h hd
    rw [if_neg (by simp)]
    go_enter Try.func20, Try.ntmps20
    go_wp2_with fail
    refine HP.out.mono ?_
    intro e w1 hp
    have HPP := Lib.hid hp
    obtain ⟨rfl, _⟩ := hp
    clear HP
    go_wp2_with fail
    go_end0
    exact HPP.out
  · have HP := Lib.hid (powered_dead h hd)
    clear h hd
    rw [if_pos rfl]
    go_enter Try.func20, Try.ntmps20
    go_wp2_with fail
    refine (HP.out _).mono ?_
    rintro e w1 ⟨rfl, hc⟩
    have HPP := Lib.hid hc
    clear HP hc
    go_wp2_with fail
    go_end0
    exact .still HH.out HPP.out
end
end Go.Proofs.Ytienhidbgohhcaa

