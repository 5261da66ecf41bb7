/-
  Layer 9: Terms in memory; New, Grow, Sort, Ground.
-/
import Derived.Test.YtmiocohlklnglaaDoorTmNew
set_option linter.unusedVariables false
set_option linter.unusedSimpArgs false
namespace Go.Proofs.YtmiocohlklnglaaDoor
open Go.RowKit Tm

section
variable {P : Program} {w : World} {t k e : TypeId} {b : Nat} {M : List (Int × Value)}
theorem wpList_lookv {ops : Array Oper} {Q : Exit → Act → World → Prop} {a : Act} {rest : List Oper} {o : Oper} (hg : o.guard = none) (m x : Operand) (ho : o.op = .lookup t m x false)
    (ht : P.underlying t = some (.map k e)) (hk : P.underlying k = some (.int .i64)) (z : Value) (hz : (zeroValue e).run P w = .ok z w) (b : Nat) (hm : a.eval m = .map (some b)) (y : Int) (hx : a.eval x = .int .i64 y) (M : List (Int × Value)) (hs : IM w b M)
    (v : Value) (hv : (lookL M y).getD z = v) (h : wpList P ops Q rest (a.put o.dst v) w) : wpList P ops Q (o :: rest) a w :=
  wpList_look hg m x ho ht hk z hz b hm y hx M hs (hv.symm ▸ h)
theorem wpList_look2v {ops : Array Oper} {Q : Exit → Act → World → Prop} {a : Act} {rest : List Oper} {o : Oper} (hg : o.guard = none) (m x : Operand) (ho : o.op = .lookup t m x true)
    (ht : P.underlying t = some (.map k e)) (hk : P.underlying k = some (.int .i64)) (z : Value) (hz : (zeroValue e).run P w = .ok z w) (b : Nat) (hm : a.eval m = .map (some b)) (y : Int) (hx : a.eval x = .int .i64 y) (M : List (Int × Value)) (hs : IM w b M)
    (v : Value) (q : Bool) (hv : (lookL M y).getD z = v) (hq : (lookL M y).isSome = q) (h : wpList P ops Q rest (a.put o.dst (.tuple #[v, .bool q])) w) : wpList P ops Q (o :: rest) a w :=
  wpList_look2 hg m x ho ht hk z hz b hm y hx M hs (by rw [hv, hq]; exact h)
end
/-- Terms in memory. -/
structure TmAt (w : World) (B T R mo mg : Nat) (kv nv : Value) (g : Ru) : Prop where
  ru : RuAt w B R mo mg kv g
  head : w.heap[T]? = some (.cells #[.pointer (some ⟨R, 0, none⟩), nv] 49 (0, 0))
  row : ∃ xs, w.ownsRow B 39 6 nv g.ks.length xs
  low : B ≤ T
def growRu (g : Ru) (s : Int) : Ru := if s = 1 then { g with b := g.b + 1 } else { g with r := g.r + 1 }
theorem growRu_ks (g : Ru) (s : Int) : (growRu g s).ks = g.ks := by unfold growRu; split <;> rfl
section
variable {w w' : World} {B T R mo mg : Nat} {kv nv : Value} {g : Ru}
theorem TmAt.cells (h : TmAt w B T R mo mg kv nv g) : w.cell? ⟨T, 0, none⟩ = some (.pointer (some ⟨R, 0, none⟩)) ∧ w.cell? ⟨T, 1, none⟩ = some nv ∧ w.frozen? ⟨T, 1, none⟩ = false := by
  have := h.head
  simp [World.cell?, World.frozen?, this]
theorem TmAt.chg {S : Nat → Prop} (h : TmAt w B T R mo mg kv nv g) (hc : Chg S w w') (h0 : ¬ S T) (h1 : ¬ S R) (h2 : ¬ S mo) (h3 : ¬ S mg) (h4 : ∀ j, kv.ownBlock = some j → ¬ S j) (h5 : ∀ j, nv.ownBlock = some j → ¬ S j) : TmAt w' B T R mo mg kv nv g := by
  have hT := (Array.getElem?_eq_some_iff.1 h.head).1
  obtain ⟨xs, hx⟩ := h.row
  exact ⟨h.ru.chg hc h1 h2 h3 h4, (hc.block T hT h0).trans h.head, ⟨xs, ownsRow_chg hx hc h5⟩, h.low⟩
theorem TmAt.kept (h : TmAt w B T R mo mg kv nv g) (hb : Below w.heap.size w w') : TmAt w' B T R mo mg kv nv g := h.chg (S := fun _ => False) (.of_below hb) (fun h => h) (fun h => h) (fun h => h) (fun h => h) (fun _ _ h => h) (fun _ _ h => h)
theorem RuAt.sizes (h : RuAt w B R mo mg kv g) : R < w.heap.size ∧ mo < w.heap.size ∧ mg < w.heap.size := ⟨(Array.getElem?_eq_some_iff.1 h.head).1, h.ops.lt, h.great.lt⟩
set_option maxRecDepth 100000 in
set_option maxHeartbeats 2000000 in
theorem New_any (w : World) (b r : Int) (hb : b ≤ 9223372036854775807) (hr : r ≤ 9223372036854775807) :
    Calls Tryd.prog 6 #[.int .i64 b, .int .i64 r] w (fun e w' => ∃ T R mo mg, e = .returned (.pointer (some ⟨T, 0, none⟩)) ∧ TmAt w' w.heap.size T R mo mg (.slice none 0 0) (.slice none 0 0) (startRu b r) ∧ Below w.heap.size w w') := by
  have HN := Lib.hid (newRules_any w b r hb hr)
  clear hb hr
  go_enter Tryd.func6, Tryd.ntmps6
  go_wp2_with fail
  refine HN.out.mono ?_
  rintro e w1 ⟨R, mo, mg, rfl, h1⟩
  have HH := Lib.hid h1
  clear h1
  go_wp2_with fail
  go_ret
  have b2 : Below w1.heap.size w1 (w1.alloc (.cells #[.pointer (some ⟨R, 0, none⟩), .slice none 0 0] 49)) := (Below.refl _ _).alloc (Nat.le_refl _) _
  refine ⟨w1.heap.size, R, mo, mg, rfl, ⟨HH.out.ru.kept b2, heap_alloc_new w1 _, ⟨[], World.ownsRow_nil _ _ _ _⟩, HH.out.below.size⟩, HH.out.below.trans (b2.mono HH.out.below.size)⟩
set_option maxRecDepth 100000 in
set_option maxHeartbeats 2000000 in
theorem grow_yes (h : RuAt w B R mo mg kv g) {s : Int} (hs : s = 1 ∨ s = 2) (h1 : -1 ≤ greatest g s) (h2 : greatest g s < 9223372036854775807) :
    Calls Tryd.prog 14 #[.pointer (some ⟨R, 0, none⟩), .int .i64 s] w (fun e w' => e = .returned (.int .i64 (greatest g s + 1)) ∧ RuAt w' B R mo mg kv (growRu g s) ∧ Chg (fun j => j = mg) w w') := by
  have hl := look_great g s
  have hl2 : (lookL [(1, Value.int .i64 g.b), (2, Value.int .i64 g.r)] s).isSome = true := by rw [look_great2]; rcases hs with rfl | rfl <;> rfl
  have hup : ∀ u, updI [(1, Value.int .i64 g.b), (2, Value.int .i64 g.r)] s (.int .i64 (greatest g s + 1)) = u → u = [(1, .int .i64 (growRu g s).b), (2, .int .i64 (growRu g s).r)] := by
    rintro u rfl
    rcases hs with rfl | rfl <;> rfl
  have HU := Lib.hid hup
  have HL := Lib.hid (And.intro hl hl2)
  have HG := Lib.hid h.great
  have HH := Lib.hid h
  obtain ⟨c0, c1, c2, _⟩ := h.cells
  generalize greatest g s = x at *
  have hx : (x == 9223372036854775807) = false := by simp; omega
  have hiw : wrap64 (x + 1) = x + 1 := IntWalk.wrap64_in _ (by omega)
  clear h hl hl2 hup hs h1 h2
  go_enter Tryd.func14, Tryd.ntmps14
  go_wp2_with (first | (refine wpList_look2v rfl (.tmp 11) (.tmp 12) (by with_reducible rfl) Tryd.underlying26 Tryd.underlying3 (.int .i64 0) (zero_int _) mg (by rfl) s (by rfl) _ HG.out (.int .i64 x) true HL.out.1 HL.out.2 ?_) | (refine wpList_upd rfl (.tmp 25) (.tmp 26) (.tmp 28) (.inl (by with_reducible rfl)) Tryd.underlying26 Tryd.underlying3 mg (by rfl) s (by rfl) (.int .i64 (wrap64 (x + 1))) (by rfl) _ HG.out ?_; intro w' hM' hC'; have HM := Lib.hid hM'; have HC := Lib.hid hC'; clear hM' hC'))
  go_ret
  refine ⟨congrArg (fun z => Ending.returned (.int .i64 z)) hiw, ⟨?_, ?_, ?_, ?_, HH.out.low⟩, HC.out⟩
  · rw [HC.out.block R HH.out.sizes.1 (fun e => HH.out.great.ne HH.out.head e.symm)]; exact HH.out.head
  · exact HH.out.ops.chg HC.out HH.out.low.2.2.2
  · have := HM.out
    rw [hiw, HU.out _ rfl] at this
    exact this
  · rw [growRu_ks]
    exact ownsRow_chg HH.out.row HC.out (fun j hj e => by
      obtain ⟨_, cur, hc⟩ := own_tag HH.out.row hj
      exact HH.out.great.ne hc e.symm)
set_option maxRecDepth 100000 in
set_option maxHeartbeats 2000000 in
theorem grow_no (h : RuAt w B R mo mg kv g) {s : Int} (hs : ¬ (s = 1 ∨ s = 2)) :
    Calls Tryd.prog 14 #[.pointer (some ⟨R, 0, none⟩), .int .i64 s] w (fun e w' => e = .returned (.int .i64 (-1)) ∧ w = w') := by
  have hl := look_great g s
  have hl2 : (lookL [(1, Value.int .i64 g.b), (2, Value.int .i64 g.r)] s).isSome = false := by
    rw [look_great2]
    simp only [Bool.or_eq_false_iff, decide_eq_false_iff_not]
    exact ⟨fun e => hs (.inl e), fun e => hs (.inr e)⟩
  have HL := Lib.hid (And.intro hl hl2)
  have HG := Lib.hid h.great
  obtain ⟨c0, c1, c2, _⟩ := h.cells
  generalize greatest g s = x at *
  clear h hl hl2 hs
  go_enter Tryd.func14, Tryd.ntmps14
  go_wp2_with (refine wpList_look2v rfl (.tmp 11) (.tmp 12) (by with_reducible rfl) Tryd.underlying26 Tryd.underlying3 (.int .i64 0) (zero_int _) mg (by rfl) s (by rfl) _ HG.out (.int .i64 x) false HL.out.1 HL.out.2 ?_)
  go_ret
  exact ⟨rfl, rfl⟩
set_option maxRecDepth 100000 in
theorem Grow_yes (h : TmAt w B T R mo mg kv nv g) {s : Int} (hs : s = 1 ∨ s = 2) (h1 : -1 ≤ greatest g s) (h2 : greatest g s < 9223372036854775807) :
    Calls Tryd.prog 7 #[.pointer (some ⟨T, 0, none⟩), .int .i64 s] w (fun e w' => e = .returned (.int .i64 (greatest g s + 1)) ∧ TmAt w' B T R mo mg kv nv (growRu g s) ∧ Chg (fun j => j = mg) w w') := by
  have HG := Lib.hid (grow_yes h.ru hs h1 h2)
  have HH := Lib.hid h
  obtain ⟨c0, _, _⟩ := h.cells
  generalize greatest g s = x at *
  clear h hs h1 h2
  go_enter Tryd.func7, Tryd.ntmps7
  go_wp2_with fail
  refine HG.out.mono ?_
  rintro e w1 ⟨rfl, h1, h2⟩
  have H1 := Lib.hid (And.intro h1 h2)
  clear h1 h2
  go_wp2_with fail
  go_ret
  refine ⟨rfl, ⟨H1.out.1, ?_, ?_, HH.out.low⟩, H1.out.2⟩
  · rw [H1.out.2.block T (Array.getElem?_eq_some_iff.1 HH.out.head).1 (fun e => HH.out.ru.great.ne HH.out.head e.symm)]; exact HH.out.head
  · obtain ⟨xs, hx⟩ := HH.out.row
    refine ⟨xs, ?_⟩
    rw [growRu_ks]
    exact ownsRow_chg hx H1.out.2 (fun j hj e => by
      obtain ⟨_, cur, hc⟩ := own_tag hx hj
      exact HH.out.ru.great.ne hc e.symm)
set_option maxRecDepth 100000 in
theorem Grow_no (h : TmAt w B T R mo mg kv nv g) {s : Int} (hs : ¬ (s = 1 ∨ s = 2)) :
    Calls Tryd.prog 7 #[.pointer (some ⟨T, 0, none⟩), .int .i64 s] w (fun e w' => e = .returned (.int .i64 (-1)) ∧ w = w') := by
  have HG := Lib.hid (grow_no h.ru hs)
  obtain ⟨c0, _, _⟩ := h.cells
  clear h hs
  go_enter Tryd.func7, Tryd.ntmps7
  go_wp2_with fail
  refine HG.out.mono ?_
  rintro e w1 ⟨rfl, rfl⟩
  go_wp2_with fail
  go_ret
  exact ⟨rfl, rfl⟩
set_option maxRecDepth 100000 in
theorem Sort_any (h : TmAt w B T R mo mg kv nv g) (x : Int) : Calls Tryd.prog 9 #[.pointer (some ⟨T, 0, none⟩), .int .i64 x] w (GivesV (.int .i64 (kindOf g.ks x).1) w) := by
  have HK := Lib.hid (kind_any h.ru x)
  obtain ⟨c0, _, _⟩ := h.cells
  generalize kindOf g.ks x = q at *
  obtain ⟨q1, q2⟩ := q
  dsimp only at HK ⊢
  have hfs := field_sort
  clear h
  go_enter Tryd.func9, Tryd.ntmps9
  go_wp2_with fail
  refine HK.out.mono ?_
  rintro e w' ⟨rfl, hb⟩
  have HB := Lib.hid hb
  clear hb
  go_wp2_with fail
  go_ret
  exact GivesV.mk' rfl HB.out
set_option maxRecDepth 100000 in
theorem Ground_any (h : TmAt w B T R mo mg kv nv g) (x : Int) : Calls Tryd.prog 12 #[.pointer (some ⟨T, 0, none⟩), .int .i64 x] w (GivesV (.bool (kindOf g.ks x).2) w) := by
  have HK := Lib.hid (kind_any h.ru x)
  obtain ⟨c0, _, _⟩ := h.cells
  generalize kindOf g.ks x = q at *
  obtain ⟨q1, q2⟩ := q
  dsimp only at HK ⊢
  have hfg := field_ground
  clear h
  go_enter Tryd.func12, Tryd.ntmps12
  go_wp2_with fail
  refine HK.out.mono ?_
  rintro e w' ⟨rfl, hb⟩
  have HB := Lib.hid hb
  clear hb
  go_wp2_with fail
  go_ret
  exact GivesV.mk' rfl HB.out
end
end Go.Proofs.YtmiocohlklnglaaDoor
