/-
  Layer 9: own, Add.
-/
import Derived.Test.YtmiocohlklnglaaDoorTmTake
set_option linter.unusedVariables false
set_option linter.unusedSimpArgs false
namespace Go.Proofs.YtmiocohlklnglaaDoor
open Go.RowKit Tm

theorem rowT_int : RowT 22 3 1 8 := rowT_of (z := .int .i64 0) Tryd.underlying22 (by kernel_rfl) rfl (by omega) (by omega)
theorem rowT_nat : RowT 33 71 1 4 := rowT_of (z := .int .u32 0) Tryd.underlying33 (by kernel_rfl) rfl (by omega) (by omega)
/-- A call gives some slice, of new memory. -/
def GivesSl (w : World) (e : Ending) (w' : World) : Prop := ∃ a n c, e = .returned (.slice a n c) ∧ Below w.heap.size w w'
section
variable {ops : Array Oper} {o : Oper} {a : Act} {w : World} {Q : Exit → Act → World → Prop} {t e : TypeId} {size bytes : Nat} {rest : List Oper}
theorem wpList_app_row (hT : RowT t e size bytes) (hgd : o.guard = none) (s x : Operand) (ho : o.op = .call { callee := .builtin .append, args := #[s, x], argTypes := #[t, t] }) (B : Nat) (v : Value) (n : Nat) (xs : List Value) (hv : a.eval s = v) (hown : w.ownsRow B e size v n xs)
    (ad : Addr) (m c : Nat) (news : List Value) (hx : a.eval x = .slice (some ad) m c) (hl : news.length = m * size) (hnews : ∀ j u, news[j]? = some u → w.cell? (ad.add j) = some u) (h1 : ∀ u ∈ news, u.oneCell' = true) (hn : n + m ≤ 2000000) (hB : B ≤ w.heap.size)
    (h : ∀ v' w', w'.ownsRow B e size v' (n + m) (xs ++ news) → w.grownBy w' v.ownBlock → (∀ j, v'.ownBlock = some j → v.ownBlock = some j ∨ w.heap.size ≤ j) → wpList Tryd.prog ops Q rest (a.put o.dst v') w') : wpList Tryd.prog ops Q (o :: rest) a w :=
  wpList_plain hgd fun _ hK => wp_app_row hT s x ho B v n xs hv hown ad m c news hx hl hnews h1 hn hB fun v' w' k1 k2 k3 => hK _ _ (h v' w' k1 k2 k3)
end
theorem row_none (w : World) (e : TypeId) : (w.alloc (.cells #[] e)).ownsRow w.heap.size e 1 (.slice (some ⟨w.heap.size, 0, none⟩) 0 0) 0 [] :=
  ⟨rfl, .inr ⟨w.heap.size, 0, #[], rfl, Nat.le_refl _, heap_alloc_new w _, Nat.le_refl _, by unfold maxLen; omega, rfl, rfl⟩⟩
set_option maxRecDepth 100000 in
set_option maxHeartbeats 1000000 in
theorem clone_int {w : World} {a : Option Addr} {l c : Nat} (h : Cel w a l c) : Calls Tryd.prog 29 #[.slice a l c] w (GivesSl w) := by
  have hnil := fun (w : World) (a : Option Addr) (n c : Nat) => Lib.run_eql_slice_nil (P := Tryd.prog) w 22 3 a n c 0 0 Tryd.underlying22
  have hl6 : l ≤ 1000000 := h.few
  rcases a with _ | p
  · clear h
    go_enter Tryd.func29, Tryd.ntmps29
    go_wp2_with fail
    go_ret
    exact ⟨none, 0, 0, rfl, Below.refl _ _⟩
  · obtain ⟨C, hC, hcell, hone⟩ : ∃ C : List Value, C.length = l * 1 ∧ (∀ j u, C[j]? = some u → (w.alloc (.cells #[] 3)).cell? (p.add j) = some u) ∧ ∀ v ∈ C, v.oneCell' = true := by
      rcases h.at_ with e | ⟨g, off, C, e, hl, hr, h1⟩
      · exact ⟨[], by simp [e], by simp, by simp⟩
      · cases e
        refine ⟨C, by omega, fun j u hu => ?_, h1⟩
        rw [Addr.add_mid]
        exact (World.cell?_alloc_lt w _ ⟨g, off + j, none⟩ (World.block_lt_of_cell? _ _ (hr j u hu))).trans (hr j u hu)
    have HR := Lib.hid (row_none w 3)
    have HC := Lib.hid (And.intro hC (And.intro hcell hone))
    have hn2 : 0 + l ≤ 2000000 := by omega
    have HN := Lib.hid hn2
    clear h hC hcell hone hn2
    go_enter Tryd.func29, Tryd.ntmps29
    go_wp2_with (at_builtin; refine wpList_app_row rowT_int rfl (.tmp 5) (.tmp 6) rfl w.heap.size (.slice (some ⟨w.heap.size, 0, none⟩) 0 0) 0 [] rfl HR.out p l c _ rfl HC.out.1 HC.out.2.1 HC.out.2.2 HN.out (by simp) ?_; intro v' w' hown hgr hnew)
    obtain ⟨va, vc, rfl, _, _⟩ := own_value hown
    go_ret
    exact ⟨va, 0 + l, vc, rfl, ((Below.refl _ _).alloc (Nat.le_refl _) _).grown hgr (by simp) (fun k hk => by cases hk; exact Nat.le_refl _)⟩
set_option maxRecDepth 100000 in
set_option maxHeartbeats 1000000 in
theorem clone_nat {w : World} {a : Option Addr} {l c : Nat} (h : Cel w a l c) : Calls Tryd.prog 30 #[.slice a l c] w (GivesSl w) := by
  have hnil := fun (w : World) (a : Option Addr) (n c : Nat) => Lib.run_eql_slice_nil (P := Tryd.prog) w 33 71 a n c 0 0 Tryd.underlying33
  have hl6 : l ≤ 1000000 := h.few
  rcases a with _ | p
  · clear h
    go_enter Tryd.func30, Tryd.ntmps30
    go_wp2_with fail
    go_ret
    exact ⟨none, 0, 0, rfl, Below.refl _ _⟩
  · obtain ⟨C, hC, hcell, hone⟩ : ∃ C : List Value, C.length = l * 1 ∧ (∀ j u, C[j]? = some u → (w.alloc (.cells #[] 71)).cell? (p.add j) = some u) ∧ ∀ v ∈ C, v.oneCell' = true := by
      rcases h.at_ with e | ⟨g, off, C, e, hl, hr, h1⟩
      · exact ⟨[], by simp [e], by simp, by simp⟩
      · cases e
        refine ⟨C, by omega, fun j u hu => ?_, h1⟩
        rw [Addr.add_mid]
        exact (World.cell?_alloc_lt w _ ⟨g, off + j, none⟩ (World.block_lt_of_cell? _ _ (hr j u hu))).trans (hr j u hu)
    have HR := Lib.hid (row_none w 71)
    have HC := Lib.hid (And.intro hC (And.intro hcell hone))
    have hn2 : 0 + l ≤ 2000000 := by omega
    have HN := Lib.hid hn2
    clear h hC hcell hone hn2
    go_enter Tryd.func30, Tryd.ntmps30
    go_wp2_with (at_builtin; refine wpList_app_row rowT_nat rfl (.tmp 5) (.tmp 6) rfl w.heap.size (.slice (some ⟨w.heap.size, 0, none⟩) 0 0) 0 [] rfl HR.out p l c _ rfl HC.out.1 HC.out.2.1 HC.out.2.2 HN.out (by simp) ?_; intro v' w' hown hgr hnew)
    obtain ⟨va, vc, rfl, _, _⟩ := own_value hown
    go_ret
    exact ⟨va, 0 + l, vc, rfl, ((Below.refl _ _).alloc (Nat.le_refl _) _).grown hgr (by simp) (fun k hk => by cases hk; exact Nat.le_refl _)⟩
theorem below_put {B b o : Nat} {w W : World} {v : Value} (h : Below B w W) (hb : B ≤ b) (hB : B ≤ w.heap.size) : Below B w (W.setCell ⟨b, o, none⟩ v) :=
  h.trans ((chg_setCell (S := fun j => j = b) rfl W o v).below (fun k hk => by rw [hk]; exact hb) (Nat.le_trans hB h.size))
/-- A node's cells. -/
def nd6 (x y : Int) (v1 : Value) (s : Bool) (v2 v3 : Value) : List Value := [.int .i64 x, .int .i64 y, v1, .bool s, v2, v3]
/-- A block with a node in it. -/
def NB (W : World) (b : Nat) (x y : Int) (v1 : Value) (s : Bool) (v2 v3 : Value) : Prop := W.heap[b]? = some (.cells (nd6 x y v1 s v2 v3).toArray 39 (0, 0))
section
variable {w W W' : World} {b B : Nat} {x y : Int} {v1 v2 v3 : Value} {s : Bool}
theorem NB.cells (h : NB W b x y v1 s v2 v3) : W.cell? ⟨b, 2, none⟩ = some v1 ∧ W.cell? ⟨b, 4, none⟩ = some v2 ∧ W.cell? ⟨b, 5, none⟩ = some v3 ∧ ∀ i, W.frozen? ⟨b, i, none⟩ = false := by
  unfold NB at h
  simp [World.cell?, World.frozen?, h, nd6]
theorem NB.kept (h : NB W b x y v1 s v2 v3) (hb : Below W.heap.size W W') : NB W' b x y v1 s v2 v3 := (hb.block b (Array.getElem?_eq_some_iff.1 h).1).trans h
theorem NB.lt (h : NB W b x y v1 s v2 v3) : b < W.heap.size := (Array.getElem?_eq_some_iff.1 h).1
theorem NB.range (h : NB W b x y v1 s v2 v3) : W.rangeAt b 0 (nd6 x y v1 s v2 v3) := fun j u hu => by
  unfold NB at h
  simp [World.cell?, h]
  simpa using hu
theorem NB.put2 (h : NB W b x y v1 s v2 v3) (v : Value) : NB (W.setCell ⟨b, 2, none⟩ v) b x y v s v2 v3 := by
  unfold NB at h ⊢
  rw [heap_setCell_same W b 2 _ _ _ h]
  rfl
theorem NB.put4 (h : NB W b x y v1 s v2 v3) (v : Value) : NB (W.setCell ⟨b, 4, none⟩ v) b x y v1 s v v3 := by
  unfold NB at h ⊢
  rw [heap_setCell_same W b 4 _ _ _ h]
  rfl
theorem NB.put5 (h : NB W b x y v1 s v2 v3) (v : Value) : NB (W.setCell ⟨b, 5, none⟩ v) b x y v1 s v2 v := by
  unfold NB at h ⊢
  rw [heap_setCell_same W b 5 _ _ _ h]
  rfl
theorem NB.other (h : NB W b x y v1 s v2 v3) {c i : Nat} (hc : b ≠ c) (v : Value) : NB (W.setCell ⟨c, i, none⟩ v) b x y v1 s v2 v3 := by
  unfold NB at h ⊢
  rw [heap_setCell_other _ _ _ _ hc]
  exact h
theorem nd6_one {a1 a2 a3 : Option Addr} {n1 n2 n3 c1 c2 c3 : Nat} : ∀ u ∈ nd6 x y (.slice a1 n1 c1) s (.slice a2 n2 c2) (.slice a3 n3 c3), u.oneCell' = true := by
  intro u hu
  simp only [nd6, List.mem_cons, List.not_mem_nil, or_false] at hu
  rcases hu with rfl | rfl | rfl | rfl | rfl | rfl <;> rfl
end
/-- A node in new memory. -/
def GivesNd (x y : Int) (s : Bool) (w : World) (e : Ending) (w' : World) : Prop := ∃ b1 n1 k1 b2 n2 k2 b3 n3 k3, e = .returned (.agg #[.int .i64 x, .int .i64 y, .slice b1 n1 k1, .bool s, .slice b2 n2 k2, .slice b3 n3 k3]) ∧ Below w.heap.size w w'
section
variable {w w' : World} {n : Nd} {ka : Option Addr} {kc : Nat} {s : Bool} {a1 : Option Addr} {l1 c1 : Nat} {a2 : Option Addr} {l2 c2 : Nat}
set_option maxRecDepth 100000 in
set_option maxHeartbeats 8000000 in
theorem own_any (hn : NodeAt w n ka kc s a1 l1 c1 a2 l2 c2) : Calls Tryd.prog 16 #[.agg #[.int .i64 n.op, .int .i64 n.v, .slice ka n.kids.length kc, .bool s, .slice a1 l1 c1, .slice a2 l2 c2]] w (GivesNd n.op n.v s w) := by
  have HC0 := Lib.hid (fun W (hW : Below w.heap.size w W) => clone_int (hn.kids.cel.kept hW))
  have HC1 := Lib.hid (fun W (hW : Below w.heap.size w W) => clone_nat (hn.m1.kept hW))
  have HC2 := Lib.hid (fun W (hW : Below w.heap.size w W) => clone_nat (hn.m2.kept hW))
  obtain ⟨W2, hW2⟩ : ∃ W2, W2 = (w.alloc (.cells #[.int .i64 n.op, .int .i64 n.v, .slice ka n.kids.length kc, .bool s, .slice a1 l1 c1, .slice a2 l2 c2] 39)).alloc (.cells #[.int .i64 0, .int .i64 0, .slice none 0 0, .bool false, .slice none 0 0, .slice none 0 0] 39) := ⟨_, rfl⟩
  have hb2 : Below w.heap.size w W2 := by rw [hW2]; exact ((Below.refl _ _).alloc (Nat.le_refl _) _).alloc (by simp) _
  have h1 : NB W2 w.heap.size n.op n.v (.slice ka n.kids.length kc) s (.slice a1 l1 c1) (.slice a2 l2 c2) := by
    unfold NB
    rw [hW2, Below.heap_alloc _ _ _ (by simp)]
    exact heap_alloc_new w _
  have h2 : NB W2 (w.heap.size + 1) 0 0 (.slice none 0 0) false (.slice none 0 0) (.slice none 0 0) := by
    unfold NB
    rw [hW2]
    have := heap_alloc_new (w.alloc (.cells #[.int .i64 n.op, .int .i64 n.v, .slice ka n.kids.length kc, .bool s, .slice a1 l1 c1, .slice a2 l2 c2] 39)) (.cells #[.int .i64 0, .int .i64 0, .slice none 0 0, .bool false, .slice none 0 0, .slice none 0 0] 39)
    rw [World.size_alloc] at this
    exact this
  generalize n.kids.length = kl at *
  generalize n.op = x at *
  generalize n.v = y at *
  have HB := Lib.hid hb2
  have H1 := Lib.hid h1
  have H2 := Lib.hid h2
  have hs2 : W2.heap.size = w.heap.size + 2 := by rw [hW2]; simp
  have HS := Lib.hid (show w.heap.size + 2 ≤ W2.heap.size by omega)
  obtain ⟨x1, x2, x3, x4⟩ := h1.cells
  clear hn hb2 h1 h2 hs2
  go_enter Tryd.func16, Tryd.ntmps16
  go_wp2_with fail
  rw [← hW2]
  clear hW2
  go_wp2_with fail
  refine (HC0.out _ HB.out).mono ?_
  rintro e W3 ⟨b1, n1, k1, rfl, hb⟩
  have HB' : Hid (Below w.heap.size w (W3.setCell ⟨w.heap.size, 2, none⟩ (.slice b1 n1 k1))) := Lib.hid (below_put (HB.out.trans (hb.mono HB.out.size)) (Nat.le_refl _) (Nat.le_refl _))
  have h1' := H1.out.kept hb
  have H1' := Lib.hid (h1'.put2 (.slice b1 n1 k1))
  have H2' := Lib.hid ((H2.out.kept hb).other (c := w.heap.size) (i := 2) (by omega) (.slice b1 n1 k1))
  clear x1 x2 x3 x4
  obtain ⟨x1, x2, x3, x4⟩ := h1'.cells
  clear h1' hb HB H1 H2
  have HB := HB'
  have H1 := H1'
  have H2 := H2'
  clear HB' H1' H2'
  go_wp2_with fail
  refine (HC1.out _ HB.out).mono ?_
  rintro e W4 ⟨b2, n2, k2, rfl, hb⟩
  have HB' : Hid (Below w.heap.size w (W4.setCell ⟨w.heap.size, 4, none⟩ (.slice b2 n2 k2))) := Lib.hid (below_put (HB.out.trans (hb.mono HB.out.size)) (Nat.le_refl _) (Nat.le_refl _))
  have h1' := H1.out.kept hb
  have H1' := Lib.hid (h1'.put4 (.slice b2 n2 k2))
  have H2' := Lib.hid ((H2.out.kept hb).other (c := w.heap.size) (i := 4) (by omega) (.slice b2 n2 k2))
  clear x1 x2 x3 x4
  obtain ⟨x1, x2, x3, x4⟩ := h1'.cells
  clear h1' hb HB H1 H2
  have HB := HB'
  have H1 := H1'
  have H2 := H2'
  clear HB' H1' H2'
  go_wp2_with fail
  refine (HC2.out _ HB.out).mono ?_
  rintro e W5 ⟨b3, n3, k3, rfl, hb⟩
  have HB' : Hid (Below w.heap.size w (W5.setCell ⟨w.heap.size, 5, none⟩ (.slice b3 n3 k3))) := Lib.hid (below_put (HB.out.trans (hb.mono HB.out.size)) (Nat.le_refl _) (Nat.le_refl _))
  have h1' := H1.out.kept hb
  have H1' := Lib.hid (h1'.put5 (.slice b3 n3 k3))
  have H2' := Lib.hid ((H2.out.kept hb).other (c := w.heap.size) (i := 5) (by omega) (.slice b3 n3 k3))
  clear x1 x2 x3 x4
  obtain ⟨x1, x2, x3, x4⟩ := h1'.cells
  clear h1' hb HB H1 H2
  have HB := HB'
  have H1 := H1'
  have H2 := H2'
  clear HB' H1' H2'
  have hrng := H1.out.range
  have HTH : Hid ((W5.setCell ⟨w.heap.size, 5, none⟩ (.slice b3 n3 k3)).there (w.heap.size + 1) 0 6) := Lib.hid (fun j hj => by
    have := H2.out
    unfold NB at this
    simp [World.cell?, World.frozen?, this, nd6]
    omega)
  go_wp2_with (first | (refine wpList_val (.agg (nd6 x y (.slice b1 n1 k1) s (.slice b2 n2 k2) (.slice b3 n3 k3)).toArray) (run_load_op 39 (.tmp 1) (by with_reducible rfl) w.heap.size 0 (by rfl) (nd6 x y (.slice b1 n1 k1) s (.slice b2 n2 k2) (.slice b3 n3 k3)) _ hrng Tryd.underlying39 rfl (by rw [size_node]; rfl)) (by rfl) ?_) | (refine wpList_store_mid rfl 39 (.tmp 2) (.tmp 21) rfl (w.heap.size + 1) 0 (nd6 x y (.slice b1 n1 k1) s (.slice b2 n2 k2) (.slice b3 n3 k3)).toArray rfl rfl HTH.out (by rw [size_node]; rfl) (all_oneCell_toArray nd6_one) ?_))
  have hfin : NB ((W5.setCell ⟨w.heap.size, 5, none⟩ (.slice b3 n3 k3)).setCells (w.heap.size + 1) 0 (nd6 x y (.slice b1 n1 k1) s (.slice b2 n2 k2) (.slice b3 n3 k3))) (w.heap.size + 1) x y (.slice b1 n1 k1) s (.slice b2 n2 k2) (.slice b3 n3 k3) := by
    have := heap_setCells_same (w.heap.size + 1) 39 (nd6 x y (.slice b1 n1 k1) s (.slice b2 n2 k2) (.slice b3 n3 k3)) 0 _ _ H2.out (by simp [nd6])
    unfold NB
    rw [this]
    rfl
  refine bodyPost_ret (v := .agg (nd6 x y (.slice b1 n1 k1) s (.slice b2 n2 k2) (.slice b3 n3 k3)).toArray) ?_ rfl ⟨b1, n1, k1, b2, n2, k2, b3, n3, k3, rfl, ?_⟩
  · simp only [results, Tryd.results16, asAddr, Act.put]
    have := run_loadVar_mid (P := Tryd.prog) _ (w.heap.size + 1) 0 39 (nd6 x y (.slice b1 n1 k1) s (.slice b2 n2 k2) (.slice b3 n3 k3)) _ hfin.range Tryd.underlying39 rfl (by rw [size_node]; rfl)
    simpa [results, Tryd.results16, asAddr, Act.put] using this
  · exact HB.out.trans ((chg_setCells (S := fun j => j = w.heap.size + 1) rfl _ 0 _).below (fun k hk => by rw [hk]; omega) (by have := HB.out.size; exact this))
end
end Go.Proofs.YtmiocohlklnglaaDoor
