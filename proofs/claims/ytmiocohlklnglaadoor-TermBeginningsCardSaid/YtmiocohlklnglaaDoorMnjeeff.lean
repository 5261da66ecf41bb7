/- By program out of: TmNew, TmTerms, TmTake, TmAdd. -/
import Derived.Test.YtmiocohlklnglaaDoorMmpgpef
/-
  Layer 9: operators, newRules, New, Grow, Sort, Ground.
-/
set_option linter.unusedVariables false
set_option linter.unusedSimpArgs false
namespace Go.Proofs.YtmiocohlklnglaaDoor
open Go.RowKit Tm

/-- A map that a call makes as its first thing. -/
structure MpAt (w0 w : World) (M : List (Int × Value)) : Prop where
  im : IM w w0.heap.size M
  below : Below w0.heap.size w0 w
theorem MpAt.made (w : World) : MpAt w (w.alloc (.map #[] 0)) [] := ⟨IM.made w, (Below.refl _ _).alloc (Nat.le_refl _) _⟩
theorem MpAt.put {w0 w w' : World} {M M' : List (Int × Value)} (h : MpAt w0 w M) (hc : Chg (fun j => j = w0.heap.size) w w') (hi : IM w' w0.heap.size M') : MpAt w0 w' M' :=
  ⟨hi, h.below.trans (hc.below (fun k hk => by rw [hk]; exact Nat.le_refl _) h.below.size)⟩
section
variable {P : Program} {w : World} {t k e : TypeId}
theorem wpList_mp {ops : Array Oper} {Q : Exit → Act → World → Prop} {a : Act} {rest : List Oper} {o : Oper} (hg : o.guard = none) (m x v : Operand) (ho : o.op = .insert t m x v)
    (ht : P.underlying t = some (.map k e)) (hk : P.underlying k = some (.int .i64)) (w0 : World) (hm : a.eval m = .map (some w0.heap.size)) (y : Int) (hx : a.eval x = .int .i64 y) (u : Value) (hv : a.eval v = u) (M : List (Int × Value)) (hs : Hid (MpAt w0 w M))
    (h : ∀ w', Hid (MpAt w0 w' (updI M y u)) → wpList P ops Q rest (a.put o.dst undef) w') : wpList P ops Q (o :: rest) a w :=
  wpList_upd hg m x v (.inr ho) ht hk _ hm y hx u hv M hs.out.im fun w' hi hc => h w' (Lib.hid (hs.out.put hc hi))
end
set_option maxRecDepth 100000 in
set_option maxHeartbeats 4000000 in
theorem operators_any (w : World) : Calls Tryd.prog 19 #[] w (fun e w' => e = .returned (.map (some w.heap.size)) ∧ MpAt w w' opsV) := by
  have hmm := @run_makeMap Tryd.prog
  have h0 := Lib.hid (MpAt.made w)
  go_enter Tryd.func19, Tryd.ntmps19
  go_wp2_with (refine wpList_mp rfl (.tmp 1) _ _ (by with_reducible rfl) Tryd.underlying56 Tryd.underlying3 w (by rfl) _ (by rfl) _ (by rfl) _ (by assumption) ?_; intro w' hM')
  have he : ∀ M, M = opsV → MpAt w w' M → MpAt w w' opsV := fun M e h => e ▸ h
  go_ret
  exact ⟨rfl, he _ (by kernel_rfl) hM'.out⟩
/-- Rules, made anew. -/
structure NewRu (w w' : World) (g : Ru) (R mo mg : Nat) : Prop where
  ru : RuAt w' w.heap.size R mo mg (.slice none 0 0) g
  below : Below w.heap.size w w'
def startRu (b r : Int) : Ru := ⟨(if b < 0 then 0 else b) - 1, (if r < 0 then 0 else r) - 1, []⟩
def GivesRu (b r : Int) (w : World) (e : Ending) (w' : World) : Prop := ∃ R mo mg, e = .returned (.pointer (some ⟨R, 0, none⟩)) ∧ NewRu w w' (startRu b r) R mo mg
theorem new_fin {w w1 w' : World} {x y : Int} (h1 : MpAt w w1 opsV) (h2 : MpAt w1 w' [(1, .int .i64 x), (2, .int .i64 y)]) :
    NewRu w (w'.alloc (.cells #[.map (some w.heap.size), .map (some w1.heap.size), .slice none 0 0] 60)) ⟨x, y, []⟩ w'.heap.size w.heap.size w1.heap.size := by
  have s1 := h1.im.lt
  have s2 := h2.im.lt
  have b1 : Below w'.heap.size w' (w'.alloc (.cells #[.map (some w.heap.size), .map (some w1.heap.size), .slice none 0 0] 60)) := (Below.refl _ _).alloc (Nat.le_refl _) _
  have i1 : IM w' w.heap.size opsV := h1.im.past (h2.below.block _ s1)
  refine ⟨⟨heap_alloc_new w' _, i1.past (b1.block _ i1.lt), h2.im.past (b1.block _ s2), World.ownsRow_nil _ _ _ _, by omega, Nat.le_refl _, by omega, by omega⟩, ?_⟩
  exact h1.below.trans ((h2.below.trans (b1.mono (by omega))).mono (by omega))
set_option maxRecDepth 100000 in
set_option maxHeartbeats 4000000 in
theorem newRules_any (w : World) (b r : Int) (hb : b ≤ 9223372036854775807) (hr : r ≤ 9223372036854775807) : Calls Tryd.prog 13 #[.int .i64 b, .int .i64 r] w (GivesRu b r w) := by
  have hmm := @run_makeMap Tryd.prog
  have HO := Lib.hid (operators_any w)
  go_enter Tryd.func13, Tryd.ntmps13
  go_wp2_with fail
  refine HO.out.mono ?_
  rintro e w1 ⟨rfl, h1⟩
  have H1 := Lib.hid h1
  have h0 := Lib.hid (MpAt.made w1)
  clear h1
  go_wp2_with (refine wpList_mp rfl (.tmp 6) _ _ (by with_reducible rfl) Tryd.underlying26 Tryd.underlying3 w1 (by rfl) _ (by rfl) _ (by rfl) _ (by assumption) ?_; intro w' hM')
  all_goals
    go_ret
    exact ⟨_, _, _, rfl, new_fin H1.out hM'.out⟩
end Go.Proofs.YtmiocohlklnglaaDoor

/-
  Layer 9: Terms in memory; New, Grow, Sort, Ground.
-/
set_option linter.unusedVariables false
set_option linter.unusedSimpArgs false
namespace Go.Proofs.YtmiocohlklnglaaDoor
open Go.RowKit Tm

section
variable {P : Program} {w : World} {t k e : TypeId} {b : Nat} {M : List (Int × Value)}
theorem wpList_lookv {ops : Array Oper} {Q : Exit → Act → World → Prop} {a : Act} {rest : List Oper} {o : Oper} (hg : o.guard = none) (m x : Operand) (ho : o.op = .lookup t m x false)
    (ht : P.underlying t = some (.map k e)) (hk : P.underlying k = some (.int .i64)) (z : Value) (hz : (zeroValue e).run P w = .ok z w) (b : Nat) (hm : a.eval m = .map (some b)) (y : Int) (hx : a.eval x = .int .i64 y) (M : List (Int × Value)) (hs : IM w b M)
    (v : Value) (hv : (lookL M y).getD z = v) (h : wpList P ops Q rest (a.put o.dst v) w) : wpList P ops Q (o :: rest) a w :=
  wpList_look hg m x ho ht hk z hz b hm y hx M hs (hv.symm ▸ h)
theorem wpList_look2v {ops : Array Oper} {Q : Exit → Act → World → Prop} {a : Act} {rest : List Oper} {o : Oper} (hg : o.guard = none) (m x : Operand) (ho : o.op = .lookup t m x true)
    (ht : P.underlying t = some (.map k e)) (hk : P.underlying k = some (.int .i64)) (z : Value) (hz : (zeroValue e).run P w = .ok z w) (b : Nat) (hm : a.eval m = .map (some b)) (y : Int) (hx : a.eval x = .int .i64 y) (M : List (Int × Value)) (hs : IM w b M)
    (v : Value) (q : Bool) (hv : (lookL M y).getD z = v) (hq : (lookL M y).isSome = q) (h : wpList P ops Q rest (a.put o.dst (.tuple #[v, .bool q])) w) : wpList P ops Q (o :: rest) a w :=
  wpList_look2 hg m x ho ht hk z hz b hm y hx M hs (by rw [hv, hq]; exact h)
end
/-- Terms in memory. -/
structure TmAt (w : World) (B T R mo mg : Nat) (kv nv : Value) (g : Ru) : Prop where
  ru : RuAt w B R mo mg kv g
  head : w.heap[T]? = some (.cells #[.pointer (some ⟨R, 0, none⟩), nv] 49 (0, 0))
  row : ∃ xs, w.ownsRow B 39 6 nv g.ks.length xs
  low : B ≤ T
def growRu (g : Ru) (s : Int) : Ru := if s = 1 then { g with b := g.b + 1 } else { g with r := g.r + 1 }
theorem growRu_ks (g : Ru) (s : Int) : (growRu g s).ks = g.ks := by unfold growRu; split <;> rfl
section
variable {w w' : World} {B T R mo mg : Nat} {kv nv : Value} {g : Ru}
theorem TmAt.cells (h : TmAt w B T R mo mg kv nv g) : w.cell? ⟨T, 0, none⟩ = some (.pointer (some ⟨R, 0, none⟩)) ∧ w.cell? ⟨T, 1, none⟩ = some nv ∧ w.frozen? ⟨T, 1, none⟩ = false := by
  have := h.head
  simp [World.cell?, World.frozen?, this]
theorem TmAt.chg {S : Nat → Prop} (h : TmAt w B T R mo mg kv nv g) (hc : Chg S w w') (h0 : ¬ S T) (h1 : ¬ S R) (h2 : ¬ S mo) (h3 : ¬ S mg) (h4 : ∀ j, kv.ownBlock = some j → ¬ S j) (h5 : ∀ j, nv.ownBlock = some j → ¬ S j) : TmAt w' B T R mo mg kv nv g := by
  have hT := (Array.getElem?_eq_some_iff.1 h.head).1
  obtain ⟨xs, hx⟩ := h.row
  exact ⟨h.ru.chg hc h1 h2 h3 h4, (hc.block T hT h0).trans h.head, ⟨xs, ownsRow_chg hx hc h5⟩, h.low⟩
theorem TmAt.kept (h : TmAt w B T R mo mg kv nv g) (hb : Below w.heap.size w w') : TmAt w' B T R mo mg kv nv g := h.chg (S := fun _ => False) (.of_below hb) (fun h => h) (fun h => h) (fun h => h) (fun h => h) (fun _ _ h => h) (fun _ _ h => h)
theorem RuAt.sizes (h : RuAt w B R mo mg kv g) : R < w.heap.size ∧ mo < w.heap.size ∧ mg < w.heap.size := ⟨(Array.getElem?_eq_some_iff.1 h.head).1, h.ops.lt, h.great.lt⟩
set_option maxRecDepth 100000 in
set_option maxHeartbeats 2000000 in
theorem New_any (w : World) (b r : Int) (hb : b ≤ 9223372036854775807) (hr : r ≤ 9223372036854775807) :
    Calls Tryd.prog 6 #[.int .i64 b, .int .i64 r] w (fun e w' => ∃ T R mo mg, e = .returned (.pointer (some ⟨T, 0, none⟩)) ∧ TmAt w' w.heap.size T R mo mg (.slice none 0 0) (.slice none 0 0) (startRu b r) ∧ Below w.heap.size w w') := by
  have HN := Lib.hid (newRules_any w b r hb hr)
  clear hb hr
  go_enter Tryd.func6, Tryd.ntmps6
  go_wp2_with fail
  refine HN.out.mono ?_
  rintro e w1 ⟨R, mo, mg, rfl, h1⟩
  have HH := Lib.hid h1
  clear h1
  go_wp2_with fail
  go_ret
  have b2 : Below w1.heap.size w1 (w1.alloc (.cells #[.pointer (some ⟨R, 0, none⟩), .slice none 0 0] 49)) := (Below.refl _ _).alloc (Nat.le_refl _) _
  refine ⟨w1.heap.size, R, mo, mg, rfl, ⟨HH.out.ru.kept b2, heap_alloc_new w1 _, ⟨[], World.ownsRow_nil _ _ _ _⟩, HH.out.below.size⟩, HH.out.below.trans (b2.mono HH.out.below.size)⟩
set_option maxRecDepth 100000 in
set_option maxHeartbeats 2000000 in
theorem grow_yes (h : RuAt w B R mo mg kv g) {s : Int} (hs : s = 1 ∨ s = 2) (h1 : -1 ≤ greatest g s) (h2 : greatest g s < 9223372036854775807) :
    Calls Tryd.prog 14 #[.pointer (some ⟨R, 0, none⟩), .int .i64 s] w (fun e w' => e = .returned (.int .i64 (greatest g s + 1)) ∧ RuAt w' B R mo mg kv (growRu g s) ∧ Chg (fun j => j = mg) w w') := by
  have hl := look_great g s
  have hl2 : (lookL [(1, Value.int .i64 g.b), (2, Value.int .i64 g.r)] s).isSome = true := by rw [look_great2]; rcases hs with rfl | rfl <;> rfl
  have hup : ∀ u, updI [(1, Value.int .i64 g.b), (2, Value.int .i64 g.r)] s (.int .i64 (greatest g s + 1)) = u → u = [(1, .int .i64 (growRu g s).b), (2, .int .i64 (growRu g s).r)] := by
    rintro u rfl
    rcases hs with rfl | rfl <;> rfl
  have HU := Lib.hid hup
  have HL := Lib.hid (And.intro hl hl2)
  have HG := Lib.hid h.great
  have HH := Lib.hid h
  obtain ⟨c0, c1, c2, _⟩ := h.cells
  generalize greatest g s = x at *
  have hx : (x == 9223372036854775807) = false := by simp; omega
  have hiw : wrap64 (x + 1) = x + 1 := IntWalk.wrap64_in _ (by omega)
  clear h hl hl2 hup hs h1 h2
  go_enter Tryd.func14, Tryd.ntmps14
  go_wp2_with (first | (refine wpList_look2v rfl (.tmp 11) (.tmp 12) (by with_reducible rfl) Tryd.underlying26 Tryd.underlying3 (.int .i64 0) (zero_int _) mg (by rfl) s (by rfl) _ HG.out (.int .i64 x) true HL.out.1 HL.out.2 ?_) | (refine wpList_upd rfl (.tmp 25) (.tmp 26) (.tmp 28) (.inl (by with_reducible rfl)) Tryd.underlying26 Tryd.underlying3 mg (by rfl) s (by rfl) (.int .i64 (wrap64 (x + 1))) (by rfl) _ HG.out ?_; intro w' hM' hC'; have HM := Lib.hid hM'; have HC := Lib.hid hC'; clear hM' hC'))
  go_ret
  refine ⟨congrArg (fun z => Ending.returned (.int .i64 z)) hiw, ⟨?_, ?_, ?_, ?_, HH.out.low⟩, HC.out⟩
  · rw [HC.out.block R HH.out.sizes.1 (fun e => HH.out.great.ne HH.out.head e.symm)]; exact HH.out.head
  · exact HH.out.ops.chg HC.out HH.out.low.2.2.2
  · have := HM.out
    rw [hiw, HU.out _ rfl] at this
    exact this
  · rw [growRu_ks]
    exact ownsRow_chg HH.out.row HC.out (fun j hj e => by
      obtain ⟨_, cur, hc⟩ := own_tag HH.out.row hj
      exact HH.out.great.ne hc e.symm)
set_option maxRecDepth 100000 in
set_option maxHeartbeats 2000000 in
theorem grow_no (h : RuAt w B R mo mg kv g) {s : Int} (hs : ¬ (s = 1 ∨ s = 2)) :
    Calls Tryd.prog 14 #[.pointer (some ⟨R, 0, none⟩), .int .i64 s] w (fun e w' => e = .returned (.int .i64 (-1)) ∧ w = w') := by
  have hl := look_great g s
  have hl2 : (lookL [(1, Value.int .i64 g.b), (2, Value.int .i64 g.r)] s).isSome = false := by
    rw [look_great2]
    simp only [Bool.or_eq_false_iff, decide_eq_false_iff_not]
    exact ⟨fun e => hs (.inl e), fun e => hs (.inr e)⟩
  have HL := Lib.hid (And.intro hl hl2)
  have HG := Lib.hid h.great
  obtain ⟨c0, c1, c2, _⟩ := h.cells
  generalize greatest g s = x at *
  clear h hl hl2 hs
  go_enter Tryd.func14, Tryd.ntmps14
  go_wp2_with (refine wpList_look2v rfl (.tmp 11) (.tmp 12) (by with_reducible rfl) Tryd.underlying26 Tryd.underlying3 (.int .i64 0) (zero_int _) mg (by rfl) s (by rfl) _ HG.out (.int .i64 x) false HL.out.1 HL.out.2 ?_)
  go_ret
  exact ⟨rfl, rfl⟩
set_option maxRecDepth 100000 in
theorem Grow_yes (h : TmAt w B T R mo mg kv nv g) {s : Int} (hs : s = 1 ∨ s = 2) (h1 : -1 ≤ greatest g s) (h2 : greatest g s < 9223372036854775807) :
    Calls Tryd.prog 7 #[.pointer (some ⟨T, 0, none⟩), .int .i64 s] w (fun e w' => e = .returned (.int .i64 (greatest g s + 1)) ∧ TmAt w' B T R mo mg kv nv (growRu g s) ∧ Chg (fun j => j = mg) w w') := by
  have HG := Lib.hid (grow_yes h.ru hs h1 h2)
  have HH := Lib.hid h
  obtain ⟨c0, _, _⟩ := h.cells
  generalize greatest g s = x at *
  clear h hs h1 h2
  go_enter Tryd.func7, Tryd.ntmps7
  go_wp2_with fail
  refine HG.out.mono ?_
  rintro e w1 ⟨rfl, h1, h2⟩
  have H1 := Lib.hid (And.intro h1 h2)
  clear h1 h2
  go_wp2_with fail
  go_ret
  refine ⟨rfl, ⟨H1.out.1, ?_, ?_, HH.out.low⟩, H1.out.2⟩
  · rw [H1.out.2.block T (Array.getElem?_eq_some_iff.1 HH.out.head).1 (fun e => HH.out.ru.great.ne HH.out.head e.symm)]; exact HH.out.head
  · obtain ⟨xs, hx⟩ := HH.out.row
    refine ⟨xs, ?_⟩
    rw [growRu_ks]
    exact ownsRow_chg hx H1.out.2 (fun j hj e => by
      obtain ⟨_, cur, hc⟩ := own_tag hx hj
      exact HH.out.ru.great.ne hc e.symm)
set_option maxRecDepth 100000 in
theorem Grow_no (h : TmAt w B T R mo mg kv nv g) {s : Int} (hs : ¬ (s = 1 ∨ s = 2)) :
    Calls Tryd.prog 7 #[.pointer (some ⟨T, 0, none⟩), .int .i64 s] w (fun e w' => e = .returned (.int .i64 (-1)) ∧ w = w') := by
  have HG := Lib.hid (grow_no h.ru hs)
  obtain ⟨c0, _, _⟩ := h.cells
  clear h hs
  go_enter Tryd.func7, Tryd.ntmps7
  go_wp2_with fail
  refine HG.out.mono ?_
  rintro e w1 ⟨rfl, rfl⟩
  go_wp2_with fail
  go_ret
  exact ⟨rfl, rfl⟩
set_option maxRecDepth 100000 in
theorem Sort_any (h : TmAt w B T R mo mg kv nv g) (x : Int) : Calls Tryd.prog 9 #[.pointer (some ⟨T, 0, none⟩), .int .i64 x] w (GivesV (.int .i64 (kindOf g.ks x).1) w) := by
  have HK := Lib.hid (kind_any h.ru x)
  obtain ⟨c0, _, _⟩ := h.cells
  generalize kindOf g.ks x = q at *
  obtain ⟨q1, q2⟩ := q
  dsimp only at HK ⊢
  have hfs := field_sort
  clear h
  go_enter Tryd.func9, Tryd.ntmps9
  go_wp2_with fail
  refine HK.out.mono ?_
  rintro e w' ⟨rfl, hb⟩
  have HB := Lib.hid hb
  clear hb
  go_wp2_with fail
  go_ret
  exact GivesV.mk' rfl HB.out
set_option maxRecDepth 100000 in
theorem Ground_any (h : TmAt w B T R mo mg kv nv g) (x : Int) : Calls Tryd.prog 12 #[.pointer (some ⟨T, 0, none⟩), .int .i64 x] w (GivesV (.bool (kindOf g.ks x).2) w) := by
  have HK := Lib.hid (kind_any h.ru x)
  obtain ⟨c0, _, _⟩ := h.cells
  generalize kindOf g.ks x = q at *
  obtain ⟨q1, q2⟩ := q
  dsimp only at HK ⊢
  have hfg := field_ground
  clear h
  go_enter Tryd.func12, Tryd.ntmps12
  go_wp2_with fail
  refine HK.out.mono ?_
  rintro e w' ⟨rfl, hb⟩
  have HB := Lib.hid hb
  clear hb
  go_wp2_with fail
  go_ret
  exact GivesV.mk' rfl HB.out
end
end Go.Proofs.YtmiocohlklnglaaDoor

/-
  Layer 9: take.
-/
set_option linter.unusedVariables false
set_option linter.unusedSimpArgs false
namespace Go.Proofs.YtmiocohlklnglaaDoor
open Go.RowKit Tm

def zOpr : Opr := ⟨0, 0, 0, 0, 0⟩
theorem look_opr (x : Int) : (lookL opsV x).getD (.agg #[.int .i64 0, .int .i64 0, .int .i64 0, .int .i64 0, .int .i64 0]) = opV ((oprAt x).getD zOpr) ∧ (lookL opsV x).isSome = (oprAt x).isSome := by
  rw [look_ops]
  cases oprAt x <;> exact ⟨rfl, rfl⟩
theorem zero_opr (w : World) : (zeroValue 62).run Tryd.prog w = .ok (.agg #[.int .i64 0, .int .i64 0, .int .i64 0, .int .i64 0, .int .i64 0]) w := by go_simp
theorem opr_one (a b c d e : Int) : (#[.int .i64 a, .int .i64 b, .int .i64 c, .int .i64 d, .int .i64 e] : Array Value).all (·.oneCell') = true := by
  refine all_oneCell_toArray (cs := [.int .i64 a, .int .i64 b, .int .i64 c, .int .i64 d, .int .i64 e]) ?_
  intro u hu
  simp only [List.mem_cons, List.not_mem_nil, or_false] at hu
  rcases hu with rfl | rfl | rfl | rfl | rfl <;> rfl
theorem kd_one (k : Kd) : ∀ u ∈ k2 k, u.oneCell' = true := by
  intro u hu
  simp only [k2, List.mem_cons, List.not_mem_nil, or_false] at hu
  rcases hu with rfl | rfl <;> rfl
theorem kd_new (w : World) (k : Kd) : ∀ j u, (k2 k)[j]? = some u → (w.alloc (.cells #[.int .i64 k.1, .bool k.2] 53)).cell? ((⟨w.heap.size, 0, none⟩ : Addr).add j) = some u := fun j u hu => by
  rw [Addr.add_mid]
  exact rangeAt_new w (k2 k) 53 j u hu
theorem codeOf_some {g : Ru} {n : Nd} {o : Opr} (h : oprAt n.op = some o) : codeOf g n = if told g n o.sort = false then 1 else if n.kids.any (fun x => !has g.ks x) = true then 2 else if counts o n.kids.length = false then 15 else if sorted g.ks n.kids o = false then 14 else if linear g.ks n = false then 16 else if 1048576 ≤ g.ks.length then 4 else 0 := by
  unfold codeOf
  rw [h]
theorem least_of {x : Int} {o : Opr} (h : oprAt x = some o) : (x = 21 → o.least = 2) ∧ (o.sort = 0 → o.least = 3) := by
  have key : ∀ (M : List (Int × Opr)), (∀ e ∈ M, (e.1 = 21 → e.2.least = 2) ∧ (e.2.sort = 0 → e.2.least = 3)) → lookL M x = some o → (x = 21 → o.least = 2) ∧ (o.sort = 0 → o.least = 3) := by
    intro M
    induction M with
    | nil => intro _ h; cases h
    | cons e M ih =>
      intro hM h
      unfold lookL at h
      split at h
      · rename_i hx
        cases Option.some.inj h
        rw [hx]
        exact hM e (by simp)
      · exact ih (fun e he => hM e (by simp [he])) h
  refine key oprs ?_ h
  intro e he
  simp only [oprs, List.mem_cons, List.not_mem_nil, or_false] at he
  rcases he with rfl | rfl | rfl | rfl | rfl | rfl | rfl | rfl | rfl | rfl | rfl | rfl | rfl | rfl | rfl | rfl | rfl | rfl | rfl | rfl | rfl <;> decide
/-- What comes of a node. -/
def TookIs (w : World) (B R mo mg : Nat) (kv : Value) (g : Ru) (n : Nd) (e : Ending) (w' : World) : Prop :=
  e = .returned (.int .i64 (codeOf g n : Int)) ∧ ∃ kv', RuAt w' B R mo mg kv' (next g n) ∧ Chg (fun j => j = R ∨ kv.ownBlock = some j) w w' ∧ ∀ j, kv'.ownBlock = some j → kv.ownBlock = some j ∨ w.heap.size ≤ j
section
variable {w w' : World} {B R mo mg : Nat} {kv : Value} {g : Ru} {n : Nd} {ka : Option Addr} {kc : Nat} {s : Bool} {a1 : Option Addr} {l1 c1 : Nat} {a2 : Option Addr} {l2 c2 : Nat}
theorem TookIs.no {c : Nat} {v : Value} (h : RuAt w B R mo mg kv g) (hb : Below w.heap.size w w') (hc : codeOf g n = c) (h0 : c ≠ 0) (hv : v = .int .i64 (c : Int)) : TookIs w B R mo mg kv g n (.returned v) w' := by
  refine ⟨by rw [hv, hc], kv, ?_, .of_below hb, fun j hj => .inl hj⟩
  have : next g n = g := by unfold next; rw [if_neg (by omega)]
  rw [this]
  exact h.kept hb
theorem TookIs.yes {w1 : World} {k : Kd} {kv' : Value} (h : RuAt w B R mo mg kv g) (hc : codeOf g n = 0) (hx : next g n = { g with ks := g.ks ++ [k] }) (hb : Below w.heap.size w w1) (h1 : RuAt w' B R mo mg kv' { g with ks := g.ks ++ [k] }) (h2 : Chg (fun j => j = R ∨ kv.ownBlock = some j) w1 w') (h3 : ∀ j, kv'.ownBlock = some j → kv.ownBlock = some j ∨ w1.heap.size ≤ j) :
    TookIs w B R mo mg kv g n (.returned (.int .i64 0)) w' :=
  ⟨by rw [hc]; rfl, kv', by rw [hx]; exact h1, (Chg.of_below hb).trans (h2.mono fun j _ hj => .inl hj), fun j hj => (h3 j hj).imp id (fun e => Nat.le_trans hb.size e)⟩
/-- The call's own variables: the rules' pointer, the node, the operator. -/
structure TkSt (w W : World) (p R : Nat) (n : Nd) (ka : Option Addr) (kc : Nat) (s : Bool) (a1 : Option Addr) (l1 c1 : Nat) (a2 : Option Addr) (l2 c2 : Nat) (o : Opr) : Prop where
  ptr : W.cell? ⟨p, 0, none⟩ = some (.pointer (some ⟨R, 0, none⟩))
  node : W.rangeAt (p + 1) 0 [.int .i64 n.op, .int .i64 n.v, .slice ka n.kids.length kc, .bool s, .slice a1 l1 c1, .slice a2 l2 c2]
  opr : W.rangeAt (p + 2) 0 [.int .i64 o.least, .int .i64 o.most, .int .i64 o.first, .int .i64 o.others, .int .i64 o.sort]
  below : Below w.heap.size w W
  lt : p + 2 < W.heap.size
theorem TkSt.kept {W W' : World} {p : Nat} {o : Opr} (h : TkSt w W p R n ka kc s a1 l1 c1 a2 l2 c2 o) (hb : Below W.heap.size W W') : TkSt w W' p R n ka kc s a1 l1 c1 a2 l2 c2 o := by
  have hl := h.lt
  exact ⟨(hb.cell (p := ⟨p, 0, none⟩) (by show p < _; omega)).trans h.ptr, rangeAt_kept h.node hb (by omega), rangeAt_kept h.opr hb (by omega), h.below.trans (hb.mono h.below.size), Nat.lt_of_lt_of_le hl hb.size⟩
theorem TkSt.cells {W : World} {p : Nat} {o : Opr} (h : TkSt w W p R n ka kc s a1 l1 c1 a2 l2 c2 o) : W.cell? ⟨p, 0, none⟩ = some (.pointer (some ⟨R, 0, none⟩)) ∧ W.cell? ⟨p + 1, 2, none⟩ = some (.slice ka n.kids.length kc) ∧ W.cell? ⟨p + 2, 4, none⟩ = some (.int .i64 o.sort) :=
  ⟨h.ptr, h.node 2 _ rfl, h.opr 4 _ rfl⟩
/-- The three blocks as they were. -/
def Thr (p : Nat) (W w' : World) : Prop := ∀ j, p ≤ j → j < p + 3 → w'.heap[j]? = W.heap[j]?
theorem Thr.kept {p : Nat} {W W1 W2 : World} (h : Thr p W W1) (hb : Below W1.heap.size W1 W2) (hl : p + 2 < W1.heap.size) : Thr p W W2 := fun j h1 h2 => (hb.block j (by omega)).trans (h j h1 h2)
theorem TkSt.thr {W W' : World} {p : Nat} {o : Opr} (h : TkSt w W p R n ka kc s a1 l1 c1 a2 l2 c2 o) (ht : Thr p W W') : W'.cell? ⟨p, 0, none⟩ = some (.pointer (some ⟨R, 0, none⟩)) ∧ W'.cell? ⟨p + 1, 2, none⟩ = some (.slice ka n.kids.length kc) ∧ W'.cell? ⟨p + 2, 4, none⟩ = some (.int .i64 o.sort) ∧ W'.rangeAt (p + 1) 0 [.int .i64 n.op, .int .i64 n.v, .slice ka n.kids.length kc, .bool s, .slice a1 l1 c1, .slice a2 l2 c2] := by
  have hn : W'.rangeAt (p + 1) 0 [.int .i64 n.op, .int .i64 n.v, .slice ka n.kids.length kc, .bool s, .slice a1 l1 c1, .slice a2 l2 c2] := fun j u hu => (World.cell?_of_block (a := ⟨p + 1, 0 + j, none⟩) (ht (p + 1) (by omega) (by omega))).trans (h.node j u hu)
  exact ⟨(World.cell?_of_block (a := ⟨p, 0, none⟩) (ht p (by omega) (by omega))).trans h.ptr, hn 2 _ rfl, (World.cell?_of_block (a := ⟨p + 2, 4, none⟩) (ht (p + 2) (by omega) (by omega))).trans (h.opr 4 _ rfl), hn⟩
theorem load_kv {oo : Oper} {a : Act} {w : World} (x : Operand) (ho : oo.op = .load 58 x) {b off : Nat} (hx : a.eval x = .pointer (some ⟨b, off, none⟩)) {v : Value} (hc : w.cell? ⟨b, off, none⟩ = some v) : (execOp a.eval oo).run Tryd.prog w = .ok (.value v) w := by
  unfold execOp
  simp only [ho, hx]
  go_simp
/-- Behind the last append and the store. -/
theorem take_fin {W W5 : World} {k : Kd} {kv' : Value} (h : RuAt W B R mo mg kv g) (hown : W5.ownsRow B 53 2 kv' (g.ks.length + 1) (kindC g.ks ++ k2 k)) (hg : W.grownBy W5 kv.ownBlock) (hnew : ∀ j, kv'.ownBlock = some j → kv.ownBlock = some j ∨ W.heap.size ≤ j) :
    (W5.cell? ⟨R, 2, none⟩ = some kv ∧ W5.frozen? ⟨R, 2, none⟩ = false) ∧ RuAt (W5.setCell ⟨R, 2, none⟩ kv') B R mo mg kv' { g with ks := g.ks ++ [k] } ∧ Chg (fun j => j = R ∨ kv.ownBlock = some j) W (W5.setCell ⟨R, 2, none⟩ kv') := by
  have hsz := h.sizes
  have c1 : Chg (fun j => kv.ownBlock = some j) W W5 := .of_grown hg (fun j hj => hj)
  have c2 : Chg (fun j => j = R) W5 (W5.setCell ⟨R, 2, none⟩ kv') := chg_setCell (S := fun j => j = R) rfl _ _ _
  have hkR : kv.ownBlock ≠ some R := fun e => by
    obtain ⟨_, cur, hc⟩ := own_tag h.row e
    rw [h.head] at hc
    have := (Obj.cells.inj (Option.some.inj hc)).2.1
    revert this
    decide
  have hkm : ∀ b M, IM W b M → kv.ownBlock ≠ some b := fun b M hi e => by
    obtain ⟨_, cur, hc⟩ := own_tag h.row e
    exact hi.ne hc rfl
  have hh5 : W5.heap[R]? = some (.cells #[.map (some mo), .map (some mg), kv] 60 (0, 0)) := (c1.block R hsz.1 hkR).trans h.head
  have hmo5 : IM W5 mo opsV := h.ops.chg c1 (hkm _ _ h.ops)
  have hmg5 := h.great.chg c1 (hkm _ _ h.great)
  refine ⟨by simp [World.cell?, World.frozen?, hh5], ⟨?_, hmo5.chg c2 (hmo5.ne hh5), hmg5.chg c2 (hmg5.ne hh5), ?_, h.low⟩, (c1.mono (S' := fun j => j = R ∨ kv.ownBlock = some j) (fun j _ hj => .inr hj)).trans (c2.mono (fun j _ hj => .inl (.inl hj)))⟩
  · rw [heap_setCell_same W5 R 2 _ _ _ hh5]
    rfl
  · have : kindC (g.ks ++ [k]) = kindC g.ks ++ k2 k := by rw [kindC_app]; simp [kindC]
    show World.ownsRow _ B _ 2 kv' (g.ks ++ [k]).length (kindC (g.ks ++ [k]))
    rw [this, List.length_append, List.length_singleton]
    exact ownsRow_chg hown c2 (fun j hj e => by
      subst e
      obtain ⟨_, cur, hc⟩ := own_tag hown hj
      rw [hh5] at hc
      have := (Obj.cells.inj (Option.some.inj hc)).2.1
      revert this
      decide)
set_option maxRecDepth 100000 in
set_option maxHeartbeats 8000000 in
theorem take_any (h : RuAt w B R mo mg kv g) (hn : NodeAt w n ka kc s a1 l1 c1 a2 l2 c2) (hB : B ≤ w.heap.size) :
    Calls Tryd.prog 15 #[.pointer (some ⟨R, 0, none⟩), .agg #[.int .i64 n.op, .int .i64 n.v, .slice ka n.kids.length kc, .bool s, .slice a1 l1 c1, .slice a2 l2 c2]] w (TookIs w B R mo mg kv g n) := by
  obtain ⟨W2, hW2⟩ : ∃ W2, W2 = (w.alloc (.cells #[.pointer (some ⟨R, 0, none⟩)] 46)).alloc (.cells #[.int .i64 n.op, .int .i64 n.v, .slice ka n.kids.length kc, .bool s, .slice a1 l1 c1, .slice a2 l2 c2] 39) := ⟨_, rfl⟩
  obtain ⟨o, ho⟩ : ∃ o, (oprAt n.op).getD zOpr = o := ⟨_, rfl⟩
  obtain ⟨q, hq⟩ : ∃ q, (oprAt n.op).isSome = q := ⟨_, rfl⟩
  have HL : Hid ((lookL opsV n.op).getD (.agg #[.int .i64 0, .int .i64 0, .int .i64 0, .int .i64 0, .int .i64 0]) = .agg #[.int .i64 o.least, .int .i64 o.most, .int .i64 o.first, .int .i64 o.others, .int .i64 o.sort] ∧ (lookL opsV n.op).isSome = q) := Lib.hid (by
    obtain ⟨q1, q2⟩ := look_opr n.op
    rw [q1, q2, ho, hq]
    exact ⟨rfl, rfl⟩)
  have hb2 : Below w.heap.size w W2 := by rw [hW2]; exact ((Below.refl _ _).alloc (Nat.le_refl _) _).alloc (by simp) _
  have hs2 : W2.heap.size = w.heap.size + 2 := by rw [hW2]; simp
  have hp2 : W2.cell? ⟨w.heap.size, 0, none⟩ = some (.pointer (some ⟨R, 0, none⟩)) := by rw [hW2]; simp
  have hn2 : W2.rangeAt (w.heap.size + 1) 0 [.int .i64 n.op, .int .i64 n.v, .slice ka n.kids.length kc, .bool s, .slice a1 l1 c1, .slice a2 l2 c2] := by
    rw [hW2]
    have := rangeAt_new (w.alloc (.cells #[.pointer (some ⟨R, 0, none⟩)] 46)) [.int .i64 n.op, .int .i64 n.v, .slice ka n.kids.length kc, .bool s, .slice a1 l1 c1, .slice a2 l2 c2] 39
    rw [World.size_alloc] at this
    exact this
  have hru2 := h.kept hb2
  have HX : Hid (W2.drew.cell? ⟨w.heap.size, 0, none⟩ = some (.pointer (some ⟨R, 0, none⟩)) ∧ W2.drew.cell? ⟨w.heap.size + 1, 0, none⟩ = some (.int .i64 n.op) ∧ W2.drew.cell? ⟨R, 0, none⟩ = some (.map (some mo)) ∧ IM W2.drew mo opsV) := Lib.hid ⟨hp2, hn2 0 _ rfl, hru2.cells.1, hru2.ops.past rfl⟩
  obtain ⟨W5, hW5⟩ : ∃ W5, W5 = W2.drew.alloc (.cells #[.int .i64 o.least, .int .i64 o.most, .int .i64 o.first, .int .i64 o.others, .int .i64 o.sort] 62) := ⟨_, rfl⟩
  have hb5 : Below W2.heap.size W2 W5 := by rw [hW5]; exact (Below.refl _ _).drew.alloc (Nat.le_refl _) _
  have HTK : Hid (TkSt w W5 w.heap.size R n ka kc s a1 l1 c1 a2 l2 c2 o) := Lib.hid (by
    refine ⟨(hb5.cell (p := ⟨w.heap.size, 0, none⟩) (by show w.heap.size < _; omega)).trans hp2, rangeAt_kept hn2 hb5 (by omega), ?_, hb2.trans (hb5.mono hb2.size), ?_⟩
    · have := rangeAt_new W2.drew [.int .i64 o.least, .int .i64 o.most, .int .i64 o.first, .int .i64 o.others, .int .i64 o.sort] 62
      rw [hW5, ← hs2]
      exact this
    · rw [hW5]
      simp
      omega)
  have HS2 := Lib.hid hs2
  have HRU : Hid (RuAt W5 B R mo mg kv g) := Lib.hid (hru2.kept hb5)
  have HND : Hid (NodeAt W5 n ka kc s a1 l1 c1 a2 l2 c2) := Lib.hid (hn.kept (hb2.trans (hb5.mono hb2.size)))
  have HH := Lib.hid (And.intro h (And.intro hB (And.intro ho hq)))
  have hs2' : W2.drew.heap.size = w.heap.size + 2 := hs2
  have al0 := (Below.refl W2.drew.heap.size W2.drew).alloc (Nat.le_refl _) (.cells #[.int .i64 0, .int .i64 0, .int .i64 0, .int .i64 0, .int .i64 0] 62)
  have al1 := (Below.refl W2.drew.heap.size W2.drew).alloc (Nat.le_refl _) (.cells #[.int .i64 o.least, .int .i64 o.most, .int .i64 o.first, .int .i64 o.others, .int .i64 o.sort] 62)
  clear h hn hB hb2 hs2 hp2 hn2 hru2 hb5 ho hq
  go_enter Tryd.func15, Tryd.ntmps15
  go_wp2_with fail
  rw [← hW2]
  clear hW2
  refine wp_region_held_drew (S := (fun w' => w'.cell? ⟨w.heap.size, 0, none⟩ = some (.pointer (some ⟨R, 0, none⟩)) ∧ w'.cell? ⟨w.heap.size + 1, 0, none⟩ = some (.int .i64 n.op) ∧ w'.cell? ⟨R, 0, none⟩ = some (.map (some mo)) ∧ IM w' mo opsV)) (by kernel_rfl) ?_ (fun hHeld => ?_)
  · exact HX.out
  refine wpAnyH_take (i := 0) (v := .pointer (some ⟨R, 0, none⟩)) (by rfl) (by kernel_rfl) (by kernel_rfl) (by kernel_rfl) (by exact fun _ _ _ h => h) (Or.inl ⟨by rfl, ?_⟩) hHeld ?_
  · intro w' hSw
    obtain ⟨s1, s2, s3, s4⟩ := hSw
    go_simp
  try simp only [Act.put, List.setIfInBounds_toArray, List.set_cons_zero, List.set_cons_succ, List.getElem_toArray, List.getElem_cons_zero, List.getElem_cons_succ]
  refine wpAnyH_take (i := 1) (v := ?_) (by rfl) (by kernel_rfl) (by kernel_rfl) (by kernel_rfl) (by exact fun _ _ _ h => h) (Or.inl ⟨by rfl, ?_⟩) hHeld ?_
  rotate_left 1
  · intro w' hSw
    (try dsimp only at hSw)
    go_simp
    try with_reducible rfl
  try simp only [Act.put, List.setIfInBounds_toArray, List.set_cons_zero, List.set_cons_succ, List.getElem_toArray, List.getElem_cons_zero, List.getElem_cons_succ]
  refine wpAnyH_take (i := 2) (v := ?_) (by rfl) (by kernel_rfl) (by kernel_rfl) (by kernel_rfl) (by exact fun _ _ _ h => h) (Or.inl ⟨by rfl, ?_⟩) hHeld ?_
  rotate_left 1
  · intro w' hSw
    (try dsimp only at hSw)
    go_simp
    try with_reducible rfl
  try simp only [Act.put, List.setIfInBounds_toArray, List.set_cons_zero, List.set_cons_succ, List.getElem_toArray, List.getElem_cons_zero, List.getElem_cons_succ]
  refine wpAnyH_take (i := 3) (v := .map (some mo)) (by rfl) (by kernel_rfl) (by kernel_rfl) (by kernel_rfl) (by exact fun _ _ _ h => h) (Or.inl ⟨by rfl, ?_⟩) hHeld ?_
  · intro w' hSw
    obtain ⟨s1, s2, s3, s4⟩ := hSw
    go_simp
  try simp only [Act.put, List.setIfInBounds_toArray, List.set_cons_zero, List.set_cons_succ, List.getElem_toArray, List.getElem_cons_zero, List.getElem_cons_succ]
  refine wpAnyH_take (i := 4) (v := ?_) (by rfl) (by kernel_rfl) (by kernel_rfl) (by kernel_rfl) (by exact fun _ _ _ h => h) (Or.inl ⟨by rfl, ?_⟩) hHeld ?_
  rotate_left 1
  · intro w' hSw
    (try dsimp only at hSw)
    go_simp
    try with_reducible rfl
  try simp only [Act.put, List.setIfInBounds_toArray, List.set_cons_zero, List.set_cons_succ, List.getElem_toArray, List.getElem_cons_zero, List.getElem_cons_succ]
  refine wpAnyH_take (i := 5) (v := .int .i64 n.op) (by rfl) (by kernel_rfl) (by kernel_rfl) (by kernel_rfl) (by exact fun _ _ _ h => h) (Or.inl ⟨by rfl, ?_⟩) hHeld ?_
  · intro w' hSw
    obtain ⟨s1, s2, s3, s4⟩ := hSw
    go_simp
  try simp only [Act.put, List.setIfInBounds_toArray, List.set_cons_zero, List.set_cons_succ, List.getElem_toArray, List.getElem_cons_zero, List.getElem_cons_succ]
  refine wpAnyH_take (i := 6) (v := .tuple #[.agg #[.int .i64 o.least, .int .i64 o.most, .int .i64 o.first, .int .i64 o.others, .int .i64 o.sort], .bool q]) (by rfl) (by kernel_rfl) (by kernel_rfl) (by kernel_rfl) (by exact fun _ _ _ h => h) (Or.inl ⟨by rfl, ?_⟩) hHeld ?_
  · intro w' hSw
    exact run_look2_op (.tmp 11) (.tmp 13) rfl Tryd.underlying56 Tryd.underlying3 (.agg #[.int .i64 0, .int .i64 0, .int .i64 0, .int .i64 0, .int .i64 0]) (zero_opr _) mo rfl n.op rfl _ hSw.2.2.2 _ _ HL.out.1 HL.out.2
  try simp only [Act.put, List.setIfInBounds_toArray, List.set_cons_zero, List.set_cons_succ, List.getElem_toArray, List.getElem_cons_zero, List.getElem_cons_succ]
  refine wpAnyH_take (i := 7) (v := ?_) (by rfl) (by kernel_rfl) (by kernel_rfl) (by kernel_rfl) (by exact fun _ _ _ h => h) (Or.inl ⟨by rfl, ?_⟩) hHeld ?_
  rotate_left 1
  · intro w' hSw
    (try dsimp only at hSw)
    go_simp
    try with_reducible rfl
  try simp only [Act.put, List.setIfInBounds_toArray, List.set_cons_zero, List.set_cons_succ, List.getElem_toArray, List.getElem_cons_zero, List.getElem_cons_succ]
  refine wpAnyH_take (i := 8) (v := ?_) (by rfl) (by kernel_rfl) (by kernel_rfl) (by kernel_rfl) (by exact fun _ _ _ h => h) (Or.inl ⟨by rfl, ?_⟩) hHeld ?_
  rotate_left 1
  · intro w' hSw
    (try dsimp only at hSw)
    go_simp
    try with_reducible rfl
  try simp only [Act.put, List.setIfInBounds_toArray, List.set_cons_zero, List.set_cons_succ, List.getElem_toArray, List.getElem_cons_zero, List.getElem_cons_succ]
  refine wpAnyH_take (i := 9) (v := ?_) (by rfl) (by kernel_rfl) (by kernel_rfl) (by kernel_rfl) (by exact fun _ _ _ h => h) (Or.inl ⟨by rfl, ?_⟩) hHeld ?_
  rotate_left 1
  · intro w' hSw
    (try dsimp only at hSw)
    go_simp
    try with_reducible rfl
  try simp only [Act.put, List.setIfInBounds_toArray, List.set_cons_zero, List.set_cons_succ, List.getElem_toArray, List.getElem_cons_zero, List.getElem_cons_succ]
  refine wpAnyH_ready (rs := [10]) (by kernel_rfl) (by simp) ?_
  refine AllReadyH.cons (by rfl) (fun K hK => ?_) AllReadyH.nil
  refine Rg.step_alloc_agg rfl 62 rfl #[.int .i64 0, .int .i64 0, .int .i64 0, .int .i64 0, .int .i64 0] zero_opr ?_
  refine hK.out _ _ ?_ (fun hHeld => ?_)
  · exact ⟨(al0.cell (p := ⟨w.heap.size, 0, none⟩) (World.block_lt_of_cell? _ _ HX.out.1)).trans HX.out.1, (al0.cell (p := ⟨w.heap.size + 1, 0, none⟩) (World.block_lt_of_cell? _ _ HX.out.2.1)).trans HX.out.2.1, (al0.cell (p := ⟨R, 0, none⟩) (World.block_lt_of_cell? _ _ HX.out.2.2.1)).trans HX.out.2.2.1, HX.out.2.2.2.past (al0.block mo HX.out.2.2.2.lt)⟩
  clear hK K
  try simp only [Act.put, List.setIfInBounds_toArray, List.set_cons_zero, List.set_cons_succ, List.getElem_toArray, List.getElem_cons_zero, List.getElem_cons_succ]
  refine wpAnyH_ready (rs := [11]) (by kernel_rfl) (by simp) ?_
  refine AllReadyH.cons (by rfl) (fun K hK => ?_) AllReadyH.nil
  refine Rg.step_store_new rfl 62 (.tmp 5) (.tmp 15) rfl W2.drew #[.int .i64 0, .int .i64 0, .int .i64 0, .int .i64 0, .int .i64 0] #[.int .i64 o.least, .int .i64 o.most, .int .i64 o.first, .int .i64 o.others, .int .i64 o.sort] (by rfl) (by rfl) rfl (by rw [size_opr]; rfl) rfl (opr_one _ _ _ _ _) ?_
  refine hK.out _ _ ?_ (fun hHeld => ?_)
  · exact ⟨(al1.cell (p := ⟨w.heap.size, 0, none⟩) (World.block_lt_of_cell? _ _ HX.out.1)).trans HX.out.1, (al1.cell (p := ⟨w.heap.size + 1, 0, none⟩) (World.block_lt_of_cell? _ _ HX.out.2.1)).trans HX.out.2.1, (al1.cell (p := ⟨R, 0, none⟩) (World.block_lt_of_cell? _ _ HX.out.2.2.1)).trans HX.out.2.2.1, HX.out.2.2.2.past (al1.block mo HX.out.2.2.2.lt)⟩
  clear hK K
  try simp only [Act.put, List.setIfInBounds_toArray, List.set_cons_zero, List.set_cons_succ, List.getElem_toArray, List.getElem_cons_zero, List.getElem_cons_succ]
  refine wpAnyH_take (i := 12) (v := ?_) (by rfl) (by kernel_rfl) (by kernel_rfl) (by kernel_rfl) (by exact fun _ _ _ h => h) (Or.inl ⟨by rfl, ?_⟩) hHeld ?_
  rotate_left 1
  · intro w' hSw
    (try dsimp only at hSw)
    go_simp
    try with_reducible rfl
  try simp only [Act.put, List.setIfInBounds_toArray, List.set_cons_zero, List.set_cons_succ, List.getElem_toArray, List.getElem_cons_zero, List.getElem_cons_succ]
  refine wpAnyH_done (by kernel_rfl) ?_ _
  clear hHeld
  rw [← hW5]
  clear hW5 al0 al1
  have hsl : W2.drew.heap.size = w.heap.size + 2 := hs2'
  obtain ⟨x1, x2, x3⟩ := HTK.out.cells
  have HB : Hid (Below W5.heap.size W5 W5) := Lib.hid (Below.refl _ _)
  cases q with
  | false =>
    have hnone : oprAt n.op = none := by have := HH.out.2.2.2; cases hh : oprAt n.op with | none => rfl | some z => rw [hh] at this; cases this
    have HC0 : Hid (codeOf g n = 1) := Lib.hid (by unfold codeOf; rw [hnone])
    clear hnone
    go_wp2_with fail
    go_ret
    exact TookIs.no HH.out.1 HTK.out.below HC0.out (by decide) rfl
  | true =>
    have hop : oprAt n.op = some o := by have h1 := HH.out.2.2.1; have h2 := HH.out.2.2.2; cases hh : oprAt n.op with | none => rw [hh] at h2; cases h2 | some z => rw [hh] at h1; exact congrArg some h1
    have HCODE := Lib.hid (codeOf_some (g := g) hop)
    have HLE := Lib.hid (least_of hop)
    have HOP := Lib.hid hop
    have C1 : Hid (∀ W, Below W5.heap.size W5 W → Calls Tryd.prog 20 #[.pointer (some ⟨R, 0, none⟩), .agg #[.int .i64 n.op, .int .i64 n.v, .slice ka n.kids.length kc, .bool s, .slice a1 l1 c1, .slice a2 l2 c2], .int .i64 o.sort] W (GivesV (.bool (told g n o.sort)) W)) := Lib.hid fun W hW => told_any (HRU.out.kept hW) (HND.out.kept hW) o.sort
    have C2 : Hid (∀ W, Below W5.heap.size W5 W → Calls Tryd.prog 21 #[.slice ka n.kids.length kc, .func (.func 22) #[] #[.pointer (some ⟨w.heap.size, 0, none⟩)]] W (GivesV (.bool (n.kids.any (fun x => !has g.ks x))) W)) := Lib.hid fun W hW => contains_far (w := W) (b := w.heap.size) (fun W' hW' x => far_any ((HRU.out.kept hW).kept hW') ((HTK.out.kept hW).kept hW').ptr x) (HND.out.kids.kept hW)
    have C3 : Hid (∀ W, Calls Tryd.prog 24 #[.agg #[.int .i64 o.least, .int .i64 o.most, .int .i64 o.first, .int .i64 o.others, .int .i64 o.sort], .int .i64 (n.kids.length : Int)] W (GivesV (.bool (counts o n.kids.length)) W)) := Lib.hid fun W => counts_any W o n.kids.length
    have C4 : Hid (∀ W, Below W5.heap.size W5 W → Calls Tryd.prog 25 #[.pointer (some ⟨R, 0, none⟩), .slice ka n.kids.length kc, .agg #[.int .i64 o.least, .int .i64 o.most, .int .i64 o.first, .int .i64 o.others, .int .i64 o.sort]] W (GivesV (.bool (sorted g.ks n.kids o)) W)) := Lib.hid fun W hW => sorted_any (HRU.out.kept hW) (HND.out.kids.kept hW) o
    have C5 : Hid (counts o n.kids.length = true → ∀ W, Below W5.heap.size W5 W → Calls Tryd.prog 26 #[.pointer (some ⟨R, 0, none⟩), .agg #[.int .i64 n.op, .int .i64 n.v, .slice ka n.kids.length kc, .bool s, .slice a1 l1 c1, .slice a2 l2 c2]] W (GivesV (.bool (linear g.ks n)) W)) := Lib.hid fun hc W hW => linear_any (HRU.out.kept hW) n (HND.out.kids.kept hW) s a1 l1 c1 a2 l2 c2 (fun h21 => by
      have := HLE.out.1 h21
      unfold counts at hc
      rw [Bool.and_eq_true, decide_eq_true_eq] at hc
      have := hc.1
      omega)
    have C6 : Hid (counts o n.kids.length = true → ∀ W, Below W5.heap.size W5 W → Calls Tryd.prog 27 #[.pointer (some ⟨R, 0, none⟩), .slice ka n.kids.length kc, .int .i64 o.sort] W (GivesV (.int .i64 (sortOver g.ks n.kids o.sort)) W)) := Lib.hid fun hc W hW => sortOver_any (HRU.out.kept hW) (HND.out.kids.kept hW) o.sort (fun h0 e => by
      have h3 := HLE.out.2 h0
      unfold counts at hc
      rw [Bool.and_eq_true, decide_eq_true_eq, e] at hc
      have := hc.1
      simp at this
      omega)
    have C7 : Hid (∀ W, Below W5.heap.size W5 W → Calls Tryd.prog 28 #[.pointer (some ⟨R, 0, none⟩), .agg #[.int .i64 n.op, .int .i64 n.v, .slice ka n.kids.length kc, .bool s, .slice a1 l1 c1, .slice a2 l2 c2]] W (GivesV (.bool (ground g.ks n)) W)) := Lib.hid fun W hW => ground_any (HRU.out.kept hW) n (HND.out.kids.kept hW) s a1 l1 c1 a2 l2 c2
    have HNX : Hid (codeOf g n = 0 → next g n = { g with ks := g.ks ++ [(sortOver g.ks n.kids o.sort, ground g.ks n)] }) := Lib.hid fun h0 => by
      unfold next sortOf
      rw [if_pos h0, hop]
      rfl
    clear hop
    generalize sortOver g.ks n.kids o.sort = so at *
    generalize ground g.ks n = gd at *
    generalize told g n o.sort = t1 at *
    generalize n.kids.any (fun x => !has g.ks x) = t2 at *
    generalize counts o n.kids.length = t3 at *
    generalize sorted g.ks n.kids o = t4 at *
    generalize linear g.ks n = t5 at *
    go_wp2_with (first | (refine wpList_val (.agg #[.int .i64 n.op, .int .i64 n.v, .slice ka n.kids.length kc, .bool s, .slice a1 l1 c1, .slice a2 l2 c2]) (run_load_op 39 (.tmp 3) (by with_reducible rfl) (w.heap.size + 1) 0 (by rfl) [.int .i64 n.op, .int .i64 n.v, .slice ka n.kids.length kc, .bool s, .slice a1 l1 c1, .slice a2 l2 c2] _ HTK.out.node Tryd.underlying39 rfl (by rw [size_node]; rfl)) (by rfl) ?_) | (refine wpList_val (.agg #[.int .i64 o.least, .int .i64 o.most, .int .i64 o.first, .int .i64 o.others, .int .i64 o.sort]) (run_load_op 62 (.tmp 5) (by with_reducible rfl) (w.heap.size + 2) 0 (by rfl) [.int .i64 o.least, .int .i64 o.most, .int .i64 o.first, .int .i64 o.others, .int .i64 o.sort] _ HTK.out.opr Tryd.underlying62 rfl (by rw [size_opr]; rfl)) (by rfl) ?_))
    refine (C1.out _ HB.out).mono ?_
    rintro e W6 ⟨rfl, hb⟩
    have HB6 := Lib.hid (HB.out.trans (hb.mono HB.out.size))
    have HTK6 := Lib.hid (HTK.out.kept hb)
    clear HB HTK hb x1 x2 x3
    have HB := HB6
    have HTK := HTK6
    clear HB6 HTK6
    obtain ⟨x1, x2, x3⟩ := HTK.out.cells
    cases t1 with
    | false =>
      have HC0 : Hid (codeOf g n = 1) := Lib.hid (by rw [HCODE.out]; simp)
      go_wp2_with fail
      go_ret
      exact TookIs.no HH.out.1 HTK.out.below HC0.out (by decide) rfl
    | true =>
      go_wp2_with (first | (refine wpList_val (.agg #[.int .i64 n.op, .int .i64 n.v, .slice ka n.kids.length kc, .bool s, .slice a1 l1 c1, .slice a2 l2 c2]) (run_load_op 39 (.tmp 3) (by with_reducible rfl) (w.heap.size + 1) 0 (by rfl) [.int .i64 n.op, .int .i64 n.v, .slice ka n.kids.length kc, .bool s, .slice a1 l1 c1, .slice a2 l2 c2] _ HTK.out.node Tryd.underlying39 rfl (by rw [size_node]; rfl)) (by rfl) ?_) | (refine wpList_val (.agg #[.int .i64 o.least, .int .i64 o.most, .int .i64 o.first, .int .i64 o.others, .int .i64 o.sort]) (run_load_op 62 (.tmp 5) (by with_reducible rfl) (w.heap.size + 2) 0 (by rfl) [.int .i64 o.least, .int .i64 o.most, .int .i64 o.first, .int .i64 o.others, .int .i64 o.sort] _ HTK.out.opr Tryd.underlying62 rfl (by rw [size_opr]; rfl)) (by rfl) ?_))
      refine (C2.out _ HB.out).mono ?_
      rintro e W7 ⟨rfl, hb⟩
      have HB7 := Lib.hid (HB.out.trans (hb.mono HB.out.size))
      have HTK7 := Lib.hid (HTK.out.kept hb)
      clear HB HTK hb x1 x2 x3
      have HB := HB7
      have HTK := HTK7
      clear HB7 HTK7
      obtain ⟨x1, x2, x3⟩ := HTK.out.cells
      cases t2 with
      | true =>
        have HC0 : Hid (codeOf g n = 2) := Lib.hid (by rw [HCODE.out]; simp)
        go_wp2_with fail
        go_ret
        exact TookIs.no HH.out.1 HTK.out.below HC0.out (by decide) rfl
      | false =>
        go_wp2_with (first | (refine wpList_val (.agg #[.int .i64 n.op, .int .i64 n.v, .slice ka n.kids.length kc, .bool s, .slice a1 l1 c1, .slice a2 l2 c2]) (run_load_op 39 (.tmp 3) (by with_reducible rfl) (w.heap.size + 1) 0 (by rfl) [.int .i64 n.op, .int .i64 n.v, .slice ka n.kids.length kc, .bool s, .slice a1 l1 c1, .slice a2 l2 c2] _ HTK.out.node Tryd.underlying39 rfl (by rw [size_node]; rfl)) (by rfl) ?_) | (refine wpList_val (.agg #[.int .i64 o.least, .int .i64 o.most, .int .i64 o.first, .int .i64 o.others, .int .i64 o.sort]) (run_load_op 62 (.tmp 5) (by with_reducible rfl) (w.heap.size + 2) 0 (by rfl) [.int .i64 o.least, .int .i64 o.most, .int .i64 o.first, .int .i64 o.others, .int .i64 o.sort] _ HTK.out.opr Tryd.underlying62 rfl (by rw [size_opr]; rfl)) (by rfl) ?_))
        refine (C3.out _).mono ?_
        rintro e W8 ⟨rfl, hb⟩
        have HB8 := Lib.hid (HB.out.trans (hb.mono HB.out.size))
        have HTK8 := Lib.hid (HTK.out.kept hb)
        clear HB HTK hb x1 x2 x3
        have HB := HB8
        have HTK := HTK8
        clear HB8 HTK8
        obtain ⟨x1, x2, x3⟩ := HTK.out.cells
        cases t3 with
        | false =>
          have HC0 : Hid (codeOf g n = 15) := Lib.hid (by rw [HCODE.out]; simp)
          go_wp2_with fail
          go_ret
          exact TookIs.no HH.out.1 HTK.out.below HC0.out (by decide) rfl
        | true =>
          go_wp2_with (first | (refine wpList_val (.agg #[.int .i64 n.op, .int .i64 n.v, .slice ka n.kids.length kc, .bool s, .slice a1 l1 c1, .slice a2 l2 c2]) (run_load_op 39 (.tmp 3) (by with_reducible rfl) (w.heap.size + 1) 0 (by rfl) [.int .i64 n.op, .int .i64 n.v, .slice ka n.kids.length kc, .bool s, .slice a1 l1 c1, .slice a2 l2 c2] _ HTK.out.node Tryd.underlying39 rfl (by rw [size_node]; rfl)) (by rfl) ?_) | (refine wpList_val (.agg #[.int .i64 o.least, .int .i64 o.most, .int .i64 o.first, .int .i64 o.others, .int .i64 o.sort]) (run_load_op 62 (.tmp 5) (by with_reducible rfl) (w.heap.size + 2) 0 (by rfl) [.int .i64 o.least, .int .i64 o.most, .int .i64 o.first, .int .i64 o.others, .int .i64 o.sort] _ HTK.out.opr Tryd.underlying62 rfl (by rw [size_opr]; rfl)) (by rfl) ?_))
          refine (C4.out _ HB.out).mono ?_
          rintro e W9 ⟨rfl, hb⟩
          have HB9 := Lib.hid (HB.out.trans (hb.mono HB.out.size))
          have HTK9 := Lib.hid (HTK.out.kept hb)
          clear HB HTK hb x1 x2 x3
          have HB := HB9
          have HTK := HTK9
          clear HB9 HTK9
          obtain ⟨x1, x2, x3⟩ := HTK.out.cells
          cases t4 with
          | false =>
            have HC0 : Hid (codeOf g n = 14) := Lib.hid (by rw [HCODE.out]; simp)
            go_wp2_with fail
            go_ret
            exact TookIs.no HH.out.1 HTK.out.below HC0.out (by decide) rfl
          | true =>
            go_wp2_with (first | (refine wpList_val (.agg #[.int .i64 n.op, .int .i64 n.v, .slice ka n.kids.length kc, .bool s, .slice a1 l1 c1, .slice a2 l2 c2]) (run_load_op 39 (.tmp 3) (by with_reducible rfl) (w.heap.size + 1) 0 (by rfl) [.int .i64 n.op, .int .i64 n.v, .slice ka n.kids.length kc, .bool s, .slice a1 l1 c1, .slice a2 l2 c2] _ HTK.out.node Tryd.underlying39 rfl (by rw [size_node]; rfl)) (by rfl) ?_) | (refine wpList_val (.agg #[.int .i64 o.least, .int .i64 o.most, .int .i64 o.first, .int .i64 o.others, .int .i64 o.sort]) (run_load_op 62 (.tmp 5) (by with_reducible rfl) (w.heap.size + 2) 0 (by rfl) [.int .i64 o.least, .int .i64 o.most, .int .i64 o.first, .int .i64 o.others, .int .i64 o.sort] _ HTK.out.opr Tryd.underlying62 rfl (by rw [size_opr]; rfl)) (by rfl) ?_))
            refine (C5.out (by first | rfl | trivial) _ HB.out).mono ?_
            rintro e W10 ⟨rfl, hb⟩
            have HB10 := Lib.hid (HB.out.trans (hb.mono HB.out.size))
            have HTK10 := Lib.hid (HTK.out.kept hb)
            clear HB HTK hb x1 x2 x3
            have HB := HB10
            have HTK := HTK10
            clear HB10 HTK10
            obtain ⟨x1, x2, x3⟩ := HTK.out.cells
            cases t5 with
            | false =>
              have HC0 : Hid (codeOf g n = 16) := Lib.hid (by rw [HCODE.out]; simp)
              go_wp2_with fail
              go_ret
              exact TookIs.no HH.out.1 HTK.out.below HC0.out (by decide) rfl
            | true =>
              have hru := HRU.out.kept HB.out
              obtain ⟨ca, cc, hkv, _, _⟩ := own_value hru.row
              have hkc := hru.cells.2.2.1
              have hkc2 := hkc
              rw [hkv] at hkc2
              have HKV := Lib.hid hkv
              obtain ⟨len, hlen⟩ : ∃ len, g.ks.length = len := ⟨_, rfl⟩
              have HLEN := Lib.hid hlen
              rw [hlen] at hkc2
              have HKC := Lib.hid hkc
              clear hru hkv hlen hkc
              by_cases hfull : 1048576 ≤ len
              · have hf1 : (1048576 : Int) ≤ (len : Int) := by omega
                have HC0 : Hid (codeOf g n = 4) := Lib.hid (by rw [HCODE.out, HLEN.out]; simp [hfull])
                clear hfull
                go_wp2_with fail
                go_ret
                exact TookIs.no HH.out.1 HTK.out.below HC0.out (by decide) rfl
              · have hf1 : ¬ (1048576 : Int) ≤ (len : Int) := by omega
                have HC0 : Hid (codeOf g n = 0) := Lib.hid (by rw [HCODE.out, HLEN.out]; simp [hfull])
                have HFEW : Hid (len + 1 ≤ 2000000) := Lib.hid (by omega)
                have hf2 : decide ((1048576 : Int) ≤ (len : Int)) = false := by simpa using hf1
                have hf3 : len < 1048576 := by omega
                have hf4 : (len : Int) < 1048576 := by omega
                go_wp2_with fail
                have HBD := Lib.hid HB.out.drew
                have HTD : Hid (TkSt w W10.drew w.heap.size R n ka kc s a1 l1 c1 a2 l2 c2 o) := Lib.hid (HTK.out.kept (Below.refl _ _).drew)
                have HT0 : Hid (Thr w.heap.size W10.drew W10.drew) := Lib.hid (fun j _ _ => rfl)
                have HKD : Hid (W10.drew.cell? ⟨R, 2, none⟩ = some kv) := Lib.hid HKC.out
                refine wp_region_held_drew (S := (Thr w.heap.size W10.drew)) (by kernel_rfl) ?_ (fun hHeld => ?_)
                · exact HT0.out
                refine wpAnyH_take (i := 0) (v := .pointer (some ⟨R, 0, none⟩)) (by rfl) (by kernel_rfl) (by kernel_rfl) (by kernel_rfl) (by exact fun _ _ _ h => h) (Or.inl ⟨by rfl, ?_⟩) hHeld ?_
                · intro w' hSw
                  obtain ⟨y1, y2, y3, y4⟩ := HTD.out.thr hSw
                  go_simp
                try simp only [Act.put, List.setIfInBounds_toArray, List.set_cons_zero, List.set_cons_succ, List.getElem_toArray, List.getElem_cons_zero, List.getElem_cons_succ]
                refine wpAnyH_take (i := 1) (v := .pointer (some ⟨R, 0, none⟩)) (by rfl) (by kernel_rfl) (by kernel_rfl) (by kernel_rfl) (by exact fun _ _ _ h => h) (Or.inl ⟨by rfl, ?_⟩) hHeld ?_
                · intro w' hSw
                  obtain ⟨y1, y2, y3, y4⟩ := HTD.out.thr hSw
                  go_simp
                try simp only [Act.put, List.setIfInBounds_toArray, List.set_cons_zero, List.set_cons_succ, List.getElem_toArray, List.getElem_cons_zero, List.getElem_cons_succ]
                refine wpAnyH_take (i := 2) (v := ?_) (by rfl) (by kernel_rfl) (by kernel_rfl) (by kernel_rfl) (by exact fun _ _ _ h => h) (Or.inl ⟨by rfl, ?_⟩) hHeld ?_
                rotate_left 1
                · intro w' hSw
                  (try dsimp only at hSw)
                  go_simp
                  try with_reducible rfl
                try simp only [Act.put, List.setIfInBounds_toArray, List.set_cons_zero, List.set_cons_succ, List.getElem_toArray, List.getElem_cons_zero, List.getElem_cons_succ]
                refine wpAnyH_take (i := 3) (v := ?_) (by rfl) (by kernel_rfl) (by kernel_rfl) (by kernel_rfl) (by exact fun _ _ _ h => h) (Or.inl ⟨by rfl, ?_⟩) hHeld ?_
                rotate_left 1
                · intro w' hSw
                  (try dsimp only at hSw)
                  go_simp
                  try with_reducible rfl
                try simp only [Act.put, List.setIfInBounds_toArray, List.set_cons_zero, List.set_cons_succ, List.getElem_toArray, List.getElem_cons_zero, List.getElem_cons_succ]
                refine wpAnyH_take (i := 5) (v := .pointer (some ⟨R, 0, none⟩)) (by rfl) (by kernel_rfl) (by kernel_rfl) (by kernel_rfl) (by exact fun _ _ _ h => h) (Or.inl ⟨by rfl, ?_⟩) hHeld ?_
                · intro w' hSw
                  obtain ⟨y1, y2, y3, y4⟩ := HTD.out.thr hSw
                  go_simp
                try simp only [Act.put, List.setIfInBounds_toArray, List.set_cons_zero, List.set_cons_succ, List.getElem_toArray, List.getElem_cons_zero, List.getElem_cons_succ]
                refine wpAnyH_take (i := 6) (v := ?_) (by rfl) (by kernel_rfl) (by kernel_rfl) (by kernel_rfl) (by exact fun _ _ _ h => h) (Or.inl ⟨by rfl, ?_⟩) hHeld ?_
                rotate_left 1
                · intro w' hSw
                  (try dsimp only at hSw)
                  go_simp
                  try with_reducible rfl
                try simp only [Act.put, List.setIfInBounds_toArray, List.set_cons_zero, List.set_cons_succ, List.getElem_toArray, List.getElem_cons_zero, List.getElem_cons_succ]
                refine wpAnyH_take (i := 7) (v := .slice ka n.kids.length kc) (by rfl) (by kernel_rfl) (by kernel_rfl) (by kernel_rfl) (by exact fun _ _ _ h => h) (Or.inl ⟨by rfl, ?_⟩) hHeld ?_
                · intro w' hSw
                  obtain ⟨y1, y2, y3, y4⟩ := HTD.out.thr hSw
                  go_simp
                try simp only [Act.put, List.setIfInBounds_toArray, List.set_cons_zero, List.set_cons_succ, List.getElem_toArray, List.getElem_cons_zero, List.getElem_cons_succ]
                refine wpAnyH_take (i := 8) (v := ?_) (by rfl) (by kernel_rfl) (by kernel_rfl) (by kernel_rfl) (by exact fun _ _ _ h => h) (Or.inl ⟨by rfl, ?_⟩) hHeld ?_
                rotate_left 1
                · intro w' hSw
                  (try dsimp only at hSw)
                  go_simp
                  try with_reducible rfl
                try simp only [Act.put, List.setIfInBounds_toArray, List.set_cons_zero, List.set_cons_succ, List.getElem_toArray, List.getElem_cons_zero, List.getElem_cons_succ]
                refine wpAnyH_take (i := 9) (v := .int .i64 o.sort) (by rfl) (by kernel_rfl) (by kernel_rfl) (by kernel_rfl) (by exact fun _ _ _ h => h) (Or.inl ⟨by rfl, ?_⟩) hHeld ?_
                · intro w' hSw
                  obtain ⟨y1, y2, y3, y4⟩ := HTD.out.thr hSw
                  go_simp
                try simp only [Act.put, List.setIfInBounds_toArray, List.set_cons_zero, List.set_cons_succ, List.getElem_toArray, List.getElem_cons_zero, List.getElem_cons_succ]
                refine wpAnyH_take (i := 11) (v := .pointer (some ⟨R, 0, none⟩)) (by rfl) (by kernel_rfl) (by kernel_rfl) (by kernel_rfl) (by exact fun _ _ _ h => h) (Or.inl ⟨by rfl, ?_⟩) hHeld ?_
                · intro w' hSw
                  obtain ⟨y1, y2, y3, y4⟩ := HTD.out.thr hSw
                  go_simp
                try simp only [Act.put, List.setIfInBounds_toArray, List.set_cons_zero, List.set_cons_succ, List.getElem_toArray, List.getElem_cons_zero, List.getElem_cons_succ]
                refine wpAnyH_take (i := 12) (v := .agg #[.int .i64 n.op, .int .i64 n.v, .slice ka n.kids.length kc, .bool s, .slice a1 l1 c1, .slice a2 l2 c2]) (by rfl) (by kernel_rfl) (by kernel_rfl) (by kernel_rfl) (by exact fun _ _ _ h => h) (Or.inl ⟨by rfl, ?_⟩) hHeld ?_
                · intro w' hSw
                  exact run_load_op 39 (.tmp 3) rfl (w.heap.size + 1) 0 rfl [.int .i64 n.op, .int .i64 n.v, .slice ka n.kids.length kc, .bool s, .slice a1 l1 c1, .slice a2 l2 c2] _ (HTD.out.thr hSw).2.2.2 Tryd.underlying39 rfl (by rw [size_node]; rfl)
                try simp only [Act.put, List.setIfInBounds_toArray, List.set_cons_zero, List.set_cons_succ, List.getElem_toArray, List.getElem_cons_zero, List.getElem_cons_succ]
                refine wpAnyH_ready (rs := [4, 10]) (by kernel_rfl) (by simp) ?_
                refine AllReadyH.cons (by rfl) (fun K hK => ?_) ?_
                · refine step_val _ (load_kv (.tmp 62) rfl rfl HKD.out) rfl ?_
                  refine hK.out _ _ ?_ (fun hHeld => ?_)
                  · exact hHeld
                  clear hK K
                  try simp only [Act.put, List.setIfInBounds_toArray, List.set_cons_zero, List.set_cons_succ, List.getElem_toArray, List.getElem_cons_zero, List.getElem_cons_succ]
                  refine wpAnyH_ready (rs := [10]) (by kernel_rfl) (by simp) ?_
                  refine AllReadyH.cons (by rfl) (fun K hK => ?_) AllReadyH.nil
                  go_simp
                  refine (C6.out (by first | rfl | trivial) _ HBD.out).mono ?_
                  rintro e W11 ⟨rfl, hb⟩
                  have HB11 := Lib.hid (HBD.out.trans (hb.mono HBD.out.size))
                  have HT11 := Lib.hid (HT0.out.kept hb HTD.out.lt)
                  have HTK11 := Lib.hid (HTD.out.kept hb)
                  have HKV11 : Hid (W11.cell? ⟨R, 2, none⟩ = some kv) := Lib.hid ((hb.cell (p := ⟨R, 2, none⟩) (World.block_lt_of_cell? _ _ HKD.out)).trans HKD.out)
                  clear hb
                  refine hK.out _ _ ?_ (fun hHeld => ?_)
                  · exact HT11.out
                  clear hK K
                  try simp only [Act.put, List.setIfInBounds_toArray, List.set_cons_zero, List.set_cons_succ, List.getElem_toArray, List.getElem_cons_zero, List.getElem_cons_succ]
                  refine wpAnyH_ready (rs := [13]) (by kernel_rfl) (by simp) ?_
                  refine AllReadyH.cons (by rfl) (fun K hK => ?_) AllReadyH.nil
                  go_simp
                  refine (C7.out _ HB11.out).mono ?_
                  rintro e W12 ⟨rfl, hb⟩
                  have HB12 := Lib.hid (HB11.out.trans (hb.mono HB11.out.size))
                  have HT12 := Lib.hid (HT11.out.kept hb HTK11.out.lt)
                  have HTK12 := Lib.hid (HTK11.out.kept hb)
                  have HKV12 : Hid (W12.cell? ⟨R, 2, none⟩ = some kv) := Lib.hid ((hb.cell (p := ⟨R, 2, none⟩) (World.block_lt_of_cell? _ _ HKV11.out)).trans HKV11.out)
                  clear hb
                  refine hK.out _ _ ?_ (fun hHeld => ?_)
                  · exact HT12.out
                  clear hK K
                  try simp only [Act.put, List.setIfInBounds_toArray, List.set_cons_zero, List.set_cons_succ, List.getElem_toArray, List.getElem_cons_zero, List.getElem_cons_succ]
                  refine wpAnyH_take (i := 14) (v := ?_) (by rfl) (by kernel_rfl) (by kernel_rfl) (by kernel_rfl) (by exact fun _ _ _ h => h) (Or.inl ⟨by rfl, ?_⟩) hHeld ?_
                  rotate_left 1
                  · intro w' hSw
                    (try dsimp only at hSw)
                    go_simp
                    try with_reducible rfl
                  try simp only [Act.put, List.setIfInBounds_toArray, List.set_cons_zero, List.set_cons_succ, List.getElem_toArray, List.getElem_cons_zero, List.getElem_cons_succ]
                  refine wpAnyH_ready (rs := [15]) (by kernel_rfl) (by simp) ?_
                  refine AllReadyH.cons (by rfl) (fun K hK => ?_) AllReadyH.nil
                  go_simp
                  have al := (Below.refl W12.heap.size W12).alloc (Nat.le_refl _) (.cells #[.int .i64 so, .bool gd] 53)
                  have HALL := Lib.hid al
                  have HT13 := Lib.hid (HT12.out.kept al HTK12.out.lt)
                  have HRU13 := Lib.hid ((HRU.out.kept HB12.out).kept al)
                  have HKV13 : Hid ((W12.alloc (.cells #[.int .i64 so, .bool gd] 53)).cell? ⟨R, 2, none⟩ = some kv) := Lib.hid ((al.cell (p := ⟨R, 2, none⟩) (World.block_lt_of_cell? _ _ HKV12.out)).trans HKV12.out)
                  clear al
                  refine hK.out _ _ ?_ (fun hHeld => ?_)
                  · exact HT13.out
                  clear hK K
                  try simp only [Act.put, List.setIfInBounds_toArray, List.set_cons_zero, List.set_cons_succ, List.getElem_toArray, List.getElem_cons_zero, List.getElem_cons_succ]
                  refine wpAnyH_ready (rs := [16]) (by kernel_rfl) (by simp) ?_
                  refine AllReadyH.cons (by rfl) (fun K hK => ?_) AllReadyH.nil
                  refine step_app_row rowT_kind rfl (.tmp 63) (.tmp 74) rfl B kv g.ks.length (kindC g.ks) rfl HRU13.out.row ⟨W12.heap.size, 0, none⟩ 1 1 (k2 (so, gd)) rfl rfl (kd_new W12 (so, gd)) (kd_one _) (by rw [HLEN.out]; exact HFEW.out) (Nat.le_trans HH.out.2.1 (Nat.le_trans (HTK12.out.below.size) HALL.out.size)) ?_
                  intro kv' W14 hown hgr hnew
                  obtain ⟨va, vc, rfl, _, _⟩ := own_value hown
                  have HF := Lib.hid (take_fin HRU13.out hown hgr hnew)
                  have HNEW := Lib.hid hnew
                  have gc := HF.out.1.1
                  have gf := HF.out.1.2
                  have HT14 : Hid (Thr w.heap.size W10.drew W14) := Lib.hid (fun j h1 h2 => (hgr.block j (by have := HTK12.out.lt; have := HALL.out.size; omega) (fun e => by
                    obtain ⟨_, cur, hc⟩ := own_tag HH.out.1.row e.symm
                    have := (Array.getElem?_eq_some_iff.1 hc).1
                    omega)).trans (HT13.out j h1 h2))
                  clear hown hgr hnew
                  refine hK.out _ _ ?_ (fun hHeld => ?_)
                  · exact HT14.out
                  clear hK K
                  try simp only [Act.put, List.setIfInBounds_toArray, List.set_cons_zero, List.set_cons_succ, List.getElem_toArray, List.getElem_cons_zero, List.getElem_cons_succ]
                  refine wpAnyH_take (i := 17) (v := ?_) (by rfl) (by kernel_rfl) (by kernel_rfl) (by kernel_rfl) (by exact fun _ _ _ h => h) (Or.inl ⟨by rfl, ?_⟩) hHeld ?_
                  rotate_left 1
                  · intro w' hSw
                    (try dsimp only at hSw)
                    go_simp
                    try with_reducible rfl
                  try simp only [Act.put, List.setIfInBounds_toArray, List.set_cons_zero, List.set_cons_succ, List.getElem_toArray, List.getElem_cons_zero, List.getElem_cons_succ]
                  refine wpAnyH_take (i := 18) (v := ?_) (by rfl) (by kernel_rfl) (by kernel_rfl) (by kernel_rfl) (by exact fun _ _ _ h => h) (Or.inl ⟨by rfl, ?_⟩) hHeld ?_
                  rotate_left 1
                  · intro w' hSw
                    (try dsimp only at hSw)
                    go_simp
                    try with_reducible rfl
                  try simp only [Act.put, List.setIfInBounds_toArray, List.set_cons_zero, List.set_cons_succ, List.getElem_toArray, List.getElem_cons_zero, List.getElem_cons_succ]
                  refine wpAnyH_ready (rs := [19]) (by kernel_rfl) (by simp) ?_
                  refine AllReadyH.cons (by rfl) (fun K hK => ?_) AllReadyH.nil
                  go_simp
                  refine hK.out _ _ ?_ (fun hHeld => ?_)
                  · exact fun j h1 h2 => (heap_setCell_other _ _ _ _ (fun e => by have := HH.out.1.sizes.1; simp at e; omega)).trans (HT14.out j h1 h2)
                  clear hK K
                  try simp only [Act.put, List.setIfInBounds_toArray, List.set_cons_zero, List.set_cons_succ, List.getElem_toArray, List.getElem_cons_zero, List.getElem_cons_succ]
                  refine wpAnyH_done (by kernel_rfl) ?_ _
                  clear hHeld
                  go_wp2_with fail
                  go_ret
                  exact TookIs.yes HH.out.1 HC0.out (HNX.out HC0.out) (HTK12.out.below.trans (HALL.out.mono HTK12.out.below.size)) HF.out.2.1 HF.out.2.2 HNEW.out
                refine AllReadyH.cons (by rfl) (fun K hK => ?_) ?_
                · go_simp
                  refine (C6.out (by first | rfl | trivial) _ HBD.out).mono ?_
                  rintro e W11 ⟨rfl, hb⟩
                  have HB11 := Lib.hid (HBD.out.trans (hb.mono HBD.out.size))
                  have HT11 := Lib.hid (HT0.out.kept hb HTD.out.lt)
                  have HTK11 := Lib.hid (HTD.out.kept hb)
                  have HKV11 : Hid (W11.cell? ⟨R, 2, none⟩ = some kv) := Lib.hid ((hb.cell (p := ⟨R, 2, none⟩) (World.block_lt_of_cell? _ _ HKD.out)).trans HKD.out)
                  clear hb
                  refine hK.out _ _ ?_ (fun hHeld => ?_)
                  · exact HT11.out
                  clear hK K
                  try simp only [Act.put, List.setIfInBounds_toArray, List.set_cons_zero, List.set_cons_succ, List.getElem_toArray, List.getElem_cons_zero, List.getElem_cons_succ]
                  refine wpAnyH_ready (rs := [4, 13]) (by kernel_rfl) (by simp) ?_
                  refine AllReadyH.cons (by rfl) (fun K hK => ?_) ?_
                  · refine step_val _ (load_kv (.tmp 62) rfl rfl HKV11.out) rfl ?_
                    refine hK.out _ _ ?_ (fun hHeld => ?_)
                    · exact hHeld
                    clear hK K
                    try simp only [Act.put, List.setIfInBounds_toArray, List.set_cons_zero, List.set_cons_succ, List.getElem_toArray, List.getElem_cons_zero, List.getElem_cons_succ]
                    refine wpAnyH_ready (rs := [13]) (by kernel_rfl) (by simp) ?_
                    refine AllReadyH.cons (by rfl) (fun K hK => ?_) AllReadyH.nil
                    go_simp
                    refine (C7.out _ HB11.out).mono ?_
                    rintro e W12 ⟨rfl, hb⟩
                    have HB12 := Lib.hid (HB11.out.trans (hb.mono HB11.out.size))
                    have HT12 := Lib.hid (HT11.out.kept hb HTK11.out.lt)
                    have HTK12 := Lib.hid (HTK11.out.kept hb)
                    have HKV12 : Hid (W12.cell? ⟨R, 2, none⟩ = some kv) := Lib.hid ((hb.cell (p := ⟨R, 2, none⟩) (World.block_lt_of_cell? _ _ HKV11.out)).trans HKV11.out)
                    clear hb
                    refine hK.out _ _ ?_ (fun hHeld => ?_)
                    · exact HT12.out
                    clear hK K
                    try simp only [Act.put, List.setIfInBounds_toArray, List.set_cons_zero, List.set_cons_succ, List.getElem_toArray, List.getElem_cons_zero, List.getElem_cons_succ]
                    refine wpAnyH_take (i := 14) (v := ?_) (by rfl) (by kernel_rfl) (by kernel_rfl) (by kernel_rfl) (by exact fun _ _ _ h => h) (Or.inl ⟨by rfl, ?_⟩) hHeld ?_
                    rotate_left 1
                    · intro w' hSw
                      (try dsimp only at hSw)
                      go_simp
                      try with_reducible rfl
                    try simp only [Act.put, List.setIfInBounds_toArray, List.set_cons_zero, List.set_cons_succ, List.getElem_toArray, List.getElem_cons_zero, List.getElem_cons_succ]
                    refine wpAnyH_ready (rs := [15]) (by kernel_rfl) (by simp) ?_
                    refine AllReadyH.cons (by rfl) (fun K hK => ?_) AllReadyH.nil
                    go_simp
                    have al := (Below.refl W12.heap.size W12).alloc (Nat.le_refl _) (.cells #[.int .i64 so, .bool gd] 53)
                    have HALL := Lib.hid al
                    have HT13 := Lib.hid (HT12.out.kept al HTK12.out.lt)
                    have HRU13 := Lib.hid ((HRU.out.kept HB12.out).kept al)
                    have HKV13 : Hid ((W12.alloc (.cells #[.int .i64 so, .bool gd] 53)).cell? ⟨R, 2, none⟩ = some kv) := Lib.hid ((al.cell (p := ⟨R, 2, none⟩) (World.block_lt_of_cell? _ _ HKV12.out)).trans HKV12.out)
                    clear al
                    refine hK.out _ _ ?_ (fun hHeld => ?_)
                    · exact HT13.out
                    clear hK K
                    try simp only [Act.put, List.setIfInBounds_toArray, List.set_cons_zero, List.set_cons_succ, List.getElem_toArray, List.getElem_cons_zero, List.getElem_cons_succ]
                    refine wpAnyH_ready (rs := [16]) (by kernel_rfl) (by simp) ?_
                    refine AllReadyH.cons (by rfl) (fun K hK => ?_) AllReadyH.nil
                    refine step_app_row rowT_kind rfl (.tmp 63) (.tmp 74) rfl B kv g.ks.length (kindC g.ks) rfl HRU13.out.row ⟨W12.heap.size, 0, none⟩ 1 1 (k2 (so, gd)) rfl rfl (kd_new W12 (so, gd)) (kd_one _) (by rw [HLEN.out]; exact HFEW.out) (Nat.le_trans HH.out.2.1 (Nat.le_trans (HTK12.out.below.size) HALL.out.size)) ?_
                    intro kv' W14 hown hgr hnew
                    obtain ⟨va, vc, rfl, _, _⟩ := own_value hown
                    have HF := Lib.hid (take_fin HRU13.out hown hgr hnew)
                    have HNEW := Lib.hid hnew
                    have gc := HF.out.1.1
                    have gf := HF.out.1.2
                    have HT14 : Hid (Thr w.heap.size W10.drew W14) := Lib.hid (fun j h1 h2 => (hgr.block j (by have := HTK12.out.lt; have := HALL.out.size; omega) (fun e => by
                      obtain ⟨_, cur, hc⟩ := own_tag HH.out.1.row e.symm
                      have := (Array.getElem?_eq_some_iff.1 hc).1
                      omega)).trans (HT13.out j h1 h2))
                    clear hown hgr hnew
                    refine hK.out _ _ ?_ (fun hHeld => ?_)
                    · exact HT14.out
                    clear hK K
                    try simp only [Act.put, List.setIfInBounds_toArray, List.set_cons_zero, List.set_cons_succ, List.getElem_toArray, List.getElem_cons_zero, List.getElem_cons_succ]
                    refine wpAnyH_take (i := 17) (v := ?_) (by rfl) (by kernel_rfl) (by kernel_rfl) (by kernel_rfl) (by exact fun _ _ _ h => h) (Or.inl ⟨by rfl, ?_⟩) hHeld ?_
                    rotate_left 1
                    · intro w' hSw
                      (try dsimp only at hSw)
                      go_simp
                      try with_reducible rfl
                    try simp only [Act.put, List.setIfInBounds_toArray, List.set_cons_zero, List.set_cons_succ, List.getElem_toArray, List.getElem_cons_zero, List.getElem_cons_succ]
                    refine wpAnyH_take (i := 18) (v := ?_) (by rfl) (by kernel_rfl) (by kernel_rfl) (by kernel_rfl) (by exact fun _ _ _ h => h) (Or.inl ⟨by rfl, ?_⟩) hHeld ?_
                    rotate_left 1
                    · intro w' hSw
                      (try dsimp only at hSw)
                      go_simp
                      try with_reducible rfl
                    try simp only [Act.put, List.setIfInBounds_toArray, List.set_cons_zero, List.set_cons_succ, List.getElem_toArray, List.getElem_cons_zero, List.getElem_cons_succ]
                    refine wpAnyH_ready (rs := [19]) (by kernel_rfl) (by simp) ?_
                    refine AllReadyH.cons (by rfl) (fun K hK => ?_) AllReadyH.nil
                    go_simp
                    refine hK.out _ _ ?_ (fun hHeld => ?_)
                    · exact fun j h1 h2 => (heap_setCell_other _ _ _ _ (fun e => by have := HH.out.1.sizes.1; simp at e; omega)).trans (HT14.out j h1 h2)
                    clear hK K
                    try simp only [Act.put, List.setIfInBounds_toArray, List.set_cons_zero, List.set_cons_succ, List.getElem_toArray, List.getElem_cons_zero, List.getElem_cons_succ]
                    refine wpAnyH_done (by kernel_rfl) ?_ _
                    clear hHeld
                    go_wp2_with fail
                    go_ret
                    exact TookIs.yes HH.out.1 HC0.out (HNX.out HC0.out) (HTK12.out.below.trans (HALL.out.mono HTK12.out.below.size)) HF.out.2.1 HF.out.2.2 HNEW.out
                  refine AllReadyH.cons (by rfl) (fun K hK => ?_) ?_
                  · go_simp
                    refine (C7.out _ HB11.out).mono ?_
                    rintro e W12 ⟨rfl, hb⟩
                    have HB12 := Lib.hid (HB11.out.trans (hb.mono HB11.out.size))
                    have HT12 := Lib.hid (HT11.out.kept hb HTK11.out.lt)
                    have HTK12 := Lib.hid (HTK11.out.kept hb)
                    have HKV12 : Hid (W12.cell? ⟨R, 2, none⟩ = some kv) := Lib.hid ((hb.cell (p := ⟨R, 2, none⟩) (World.block_lt_of_cell? _ _ HKV11.out)).trans HKV11.out)
                    clear hb
                    refine hK.out _ _ ?_ (fun hHeld => ?_)
                    · exact HT12.out
                    clear hK K
                    try simp only [Act.put, List.setIfInBounds_toArray, List.set_cons_zero, List.set_cons_succ, List.getElem_toArray, List.getElem_cons_zero, List.getElem_cons_succ]
                    refine wpAnyH_take (i := 14) (v := ?_) (by rfl) (by kernel_rfl) (by kernel_rfl) (by kernel_rfl) (by exact fun _ _ _ h => h) (Or.inl ⟨by rfl, ?_⟩) hHeld ?_
                    rotate_left 1
                    · intro w' hSw
                      (try dsimp only at hSw)
                      go_simp
                      try with_reducible rfl
                    try simp only [Act.put, List.setIfInBounds_toArray, List.set_cons_zero, List.set_cons_succ, List.getElem_toArray, List.getElem_cons_zero, List.getElem_cons_succ]
                    refine wpAnyH_ready (rs := [4, 15]) (by kernel_rfl) (by simp) ?_
                    refine AllReadyH.cons (by rfl) (fun K hK => ?_) ?_
                    · refine step_val _ (load_kv (.tmp 62) rfl rfl HKV12.out) rfl ?_
                      refine hK.out _ _ ?_ (fun hHeld => ?_)
                      · exact hHeld
                      clear hK K
                      try simp only [Act.put, List.setIfInBounds_toArray, List.set_cons_zero, List.set_cons_succ, List.getElem_toArray, List.getElem_cons_zero, List.getElem_cons_succ]
                      refine wpAnyH_ready (rs := [15]) (by kernel_rfl) (by simp) ?_
                      refine AllReadyH.cons (by rfl) (fun K hK => ?_) AllReadyH.nil
                      go_simp
                      have al := (Below.refl W12.heap.size W12).alloc (Nat.le_refl _) (.cells #[.int .i64 so, .bool gd] 53)
                      have HALL := Lib.hid al
                      have HT13 := Lib.hid (HT12.out.kept al HTK12.out.lt)
                      have HRU13 := Lib.hid ((HRU.out.kept HB12.out).kept al)
                      have HKV13 : Hid ((W12.alloc (.cells #[.int .i64 so, .bool gd] 53)).cell? ⟨R, 2, none⟩ = some kv) := Lib.hid ((al.cell (p := ⟨R, 2, none⟩) (World.block_lt_of_cell? _ _ HKV12.out)).trans HKV12.out)
                      clear al
                      refine hK.out _ _ ?_ (fun hHeld => ?_)
                      · exact HT13.out
                      clear hK K
                      try simp only [Act.put, List.setIfInBounds_toArray, List.set_cons_zero, List.set_cons_succ, List.getElem_toArray, List.getElem_cons_zero, List.getElem_cons_succ]
                      refine wpAnyH_ready (rs := [16]) (by kernel_rfl) (by simp) ?_
                      refine AllReadyH.cons (by rfl) (fun K hK => ?_) AllReadyH.nil
                      refine step_app_row rowT_kind rfl (.tmp 63) (.tmp 74) rfl B kv g.ks.length (kindC g.ks) rfl HRU13.out.row ⟨W12.heap.size, 0, none⟩ 1 1 (k2 (so, gd)) rfl rfl (kd_new W12 (so, gd)) (kd_one _) (by rw [HLEN.out]; exact HFEW.out) (Nat.le_trans HH.out.2.1 (Nat.le_trans (HTK12.out.below.size) HALL.out.size)) ?_
                      intro kv' W14 hown hgr hnew
                      obtain ⟨va, vc, rfl, _, _⟩ := own_value hown
                      have HF := Lib.hid (take_fin HRU13.out hown hgr hnew)
                      have HNEW := Lib.hid hnew
                      have gc := HF.out.1.1
                      have gf := HF.out.1.2
                      have HT14 : Hid (Thr w.heap.size W10.drew W14) := Lib.hid (fun j h1 h2 => (hgr.block j (by have := HTK12.out.lt; have := HALL.out.size; omega) (fun e => by
                        obtain ⟨_, cur, hc⟩ := own_tag HH.out.1.row e.symm
                        have := (Array.getElem?_eq_some_iff.1 hc).1
                        omega)).trans (HT13.out j h1 h2))
                      clear hown hgr hnew
                      refine hK.out _ _ ?_ (fun hHeld => ?_)
                      · exact HT14.out
                      clear hK K
                      try simp only [Act.put, List.setIfInBounds_toArray, List.set_cons_zero, List.set_cons_succ, List.getElem_toArray, List.getElem_cons_zero, List.getElem_cons_succ]
                      refine wpAnyH_take (i := 17) (v := ?_) (by rfl) (by kernel_rfl) (by kernel_rfl) (by kernel_rfl) (by exact fun _ _ _ h => h) (Or.inl ⟨by rfl, ?_⟩) hHeld ?_
                      rotate_left 1
                      · intro w' hSw
                        (try dsimp only at hSw)
                        go_simp
                        try with_reducible rfl
                      try simp only [Act.put, List.setIfInBounds_toArray, List.set_cons_zero, List.set_cons_succ, List.getElem_toArray, List.getElem_cons_zero, List.getElem_cons_succ]
                      refine wpAnyH_take (i := 18) (v := ?_) (by rfl) (by kernel_rfl) (by kernel_rfl) (by kernel_rfl) (by exact fun _ _ _ h => h) (Or.inl ⟨by rfl, ?_⟩) hHeld ?_
                      rotate_left 1
                      · intro w' hSw
                        (try dsimp only at hSw)
                        go_simp
                        try with_reducible rfl
                      try simp only [Act.put, List.setIfInBounds_toArray, List.set_cons_zero, List.set_cons_succ, List.getElem_toArray, List.getElem_cons_zero, List.getElem_cons_succ]
                      refine wpAnyH_ready (rs := [19]) (by kernel_rfl) (by simp) ?_
                      refine AllReadyH.cons (by rfl) (fun K hK => ?_) AllReadyH.nil
                      go_simp
                      refine hK.out _ _ ?_ (fun hHeld => ?_)
                      · exact fun j h1 h2 => (heap_setCell_other _ _ _ _ (fun e => by have := HH.out.1.sizes.1; simp at e; omega)).trans (HT14.out j h1 h2)
                      clear hK K
                      try simp only [Act.put, List.setIfInBounds_toArray, List.set_cons_zero, List.set_cons_succ, List.getElem_toArray, List.getElem_cons_zero, List.getElem_cons_succ]
                      refine wpAnyH_done (by kernel_rfl) ?_ _
                      clear hHeld
                      go_wp2_with fail
                      go_ret
                      exact TookIs.yes HH.out.1 HC0.out (HNX.out HC0.out) (HTK12.out.below.trans (HALL.out.mono HTK12.out.below.size)) HF.out.2.1 HF.out.2.2 HNEW.out
                    refine AllReadyH.cons (by rfl) (fun K hK => ?_) ?_
                    · go_simp
                      have al := (Below.refl W12.heap.size W12).alloc (Nat.le_refl _) (.cells #[.int .i64 so, .bool gd] 53)
                      have HALL := Lib.hid al
                      have HT13 := Lib.hid (HT12.out.kept al HTK12.out.lt)
                      have HRU13 := Lib.hid ((HRU.out.kept HB12.out).kept al)
                      have HKV13 : Hid ((W12.alloc (.cells #[.int .i64 so, .bool gd] 53)).cell? ⟨R, 2, none⟩ = some kv) := Lib.hid ((al.cell (p := ⟨R, 2, none⟩) (World.block_lt_of_cell? _ _ HKV12.out)).trans HKV12.out)
                      clear al
                      refine hK.out _ _ ?_ (fun hHeld => ?_)
                      · exact HT13.out
                      clear hK K
                      try simp only [Act.put, List.setIfInBounds_toArray, List.set_cons_zero, List.set_cons_succ, List.getElem_toArray, List.getElem_cons_zero, List.getElem_cons_succ]
                      refine wpAnyH_ready (rs := [4]) (by kernel_rfl) (by simp) ?_
                      refine AllReadyH.cons (by rfl) (fun K hK => ?_) AllReadyH.nil
                      refine step_val _ (load_kv (.tmp 62) rfl rfl HKV13.out) rfl ?_
                      refine hK.out _ _ ?_ (fun hHeld => ?_)
                      · exact hHeld
                      clear hK K
                      try simp only [Act.put, List.setIfInBounds_toArray, List.set_cons_zero, List.set_cons_succ, List.getElem_toArray, List.getElem_cons_zero, List.getElem_cons_succ]
                      refine wpAnyH_ready (rs := [16]) (by kernel_rfl) (by simp) ?_
                      refine AllReadyH.cons (by rfl) (fun K hK => ?_) AllReadyH.nil
                      refine step_app_row rowT_kind rfl (.tmp 63) (.tmp 74) rfl B kv g.ks.length (kindC g.ks) rfl HRU13.out.row ⟨W12.heap.size, 0, none⟩ 1 1 (k2 (so, gd)) rfl rfl (kd_new W12 (so, gd)) (kd_one _) (by rw [HLEN.out]; exact HFEW.out) (Nat.le_trans HH.out.2.1 (Nat.le_trans (HTK12.out.below.size) HALL.out.size)) ?_
                      intro kv' W14 hown hgr hnew
                      obtain ⟨va, vc, rfl, _, _⟩ := own_value hown
                      have HF := Lib.hid (take_fin HRU13.out hown hgr hnew)
                      have HNEW := Lib.hid hnew
                      have gc := HF.out.1.1
                      have gf := HF.out.1.2
                      have HT14 : Hid (Thr w.heap.size W10.drew W14) := Lib.hid (fun j h1 h2 => (hgr.block j (by have := HTK12.out.lt; have := HALL.out.size; omega) (fun e => by
                        obtain ⟨_, cur, hc⟩ := own_tag HH.out.1.row e.symm
                        have := (Array.getElem?_eq_some_iff.1 hc).1
                        omega)).trans (HT13.out j h1 h2))
                      clear hown hgr hnew
                      refine hK.out _ _ ?_ (fun hHeld => ?_)
                      · exact HT14.out
                      clear hK K
                      try simp only [Act.put, List.setIfInBounds_toArray, List.set_cons_zero, List.set_cons_succ, List.getElem_toArray, List.getElem_cons_zero, List.getElem_cons_succ]
                      refine wpAnyH_take (i := 17) (v := ?_) (by rfl) (by kernel_rfl) (by kernel_rfl) (by kernel_rfl) (by exact fun _ _ _ h => h) (Or.inl ⟨by rfl, ?_⟩) hHeld ?_
                      rotate_left 1
                      · intro w' hSw
                        (try dsimp only at hSw)
                        go_simp
                        try with_reducible rfl
                      try simp only [Act.put, List.setIfInBounds_toArray, List.set_cons_zero, List.set_cons_succ, List.getElem_toArray, List.getElem_cons_zero, List.getElem_cons_succ]
                      refine wpAnyH_take (i := 18) (v := ?_) (by rfl) (by kernel_rfl) (by kernel_rfl) (by kernel_rfl) (by exact fun _ _ _ h => h) (Or.inl ⟨by rfl, ?_⟩) hHeld ?_
                      rotate_left 1
                      · intro w' hSw
                        (try dsimp only at hSw)
                        go_simp
                        try with_reducible rfl
                      try simp only [Act.put, List.setIfInBounds_toArray, List.set_cons_zero, List.set_cons_succ, List.getElem_toArray, List.getElem_cons_zero, List.getElem_cons_succ]
                      refine wpAnyH_ready (rs := [19]) (by kernel_rfl) (by simp) ?_
                      refine AllReadyH.cons (by rfl) (fun K hK => ?_) AllReadyH.nil
                      go_simp
                      refine hK.out _ _ ?_ (fun hHeld => ?_)
                      · exact fun j h1 h2 => (heap_setCell_other _ _ _ _ (fun e => by have := HH.out.1.sizes.1; simp at e; omega)).trans (HT14.out j h1 h2)
                      clear hK K
                      try simp only [Act.put, List.setIfInBounds_toArray, List.set_cons_zero, List.set_cons_succ, List.getElem_toArray, List.getElem_cons_zero, List.getElem_cons_succ]
                      refine wpAnyH_done (by kernel_rfl) ?_ _
                      clear hHeld
                      go_wp2_with fail
                      go_ret
                      exact TookIs.yes HH.out.1 HC0.out (HNX.out HC0.out) (HTK12.out.below.trans (HALL.out.mono HTK12.out.below.size)) HF.out.2.1 HF.out.2.2 HNEW.out
                    exact AllReadyH.nil
                  exact AllReadyH.nil
                exact AllReadyH.nil

end
end Go.Proofs.YtmiocohlklnglaaDoor

/-
  Layer 9: own, Add.
-/
set_option linter.unusedVariables false
set_option linter.unusedSimpArgs false
namespace Go.Proofs.YtmiocohlklnglaaDoor
open Go.RowKit Tm

theorem rowT_int : RowT 22 3 1 8 := rowT_of (z := .int .i64 0) Tryd.underlying22 (by kernel_rfl) rfl (by omega) (by omega)
theorem rowT_nat : RowT 33 71 1 4 := rowT_of (z := .int .u32 0) Tryd.underlying33 (by kernel_rfl) rfl (by omega) (by omega)
/-- A call gives some slice, of new memory. -/
def GivesSl (w : World) (e : Ending) (w' : World) : Prop := ∃ a n c, e = .returned (.slice a n c) ∧ Below w.heap.size w w'
section
variable {ops : Array Oper} {o : Oper} {a : Act} {w : World} {Q : Exit → Act → World → Prop} {t e : TypeId} {size bytes : Nat} {rest : List Oper}
theorem wpList_app_row (hT : RowT t e size bytes) (hgd : o.guard = none) (s x : Operand) (ho : o.op = .call { callee := .builtin .append, args := #[s, x], argTypes := #[t, t] }) (B : Nat) (v : Value) (n : Nat) (xs : List Value) (hv : a.eval s = v) (hown : w.ownsRow B e size v n xs)
    (ad : Addr) (m c : Nat) (news : List Value) (hx : a.eval x = .slice (some ad) m c) (hl : news.length = m * size) (hnews : ∀ j u, news[j]? = some u → w.cell? (ad.add j) = some u) (h1 : ∀ u ∈ news, u.oneCell' = true) (hn : n + m ≤ 2000000) (hB : B ≤ w.heap.size)
    (h : ∀ v' w', w'.ownsRow B e size v' (n + m) (xs ++ news) → w.grownBy w' v.ownBlock → (∀ j, v'.ownBlock = some j → v.ownBlock = some j ∨ w.heap.size ≤ j) → wpList Tryd.prog ops Q rest (a.put o.dst v') w') : wpList Tryd.prog ops Q (o :: rest) a w :=
  wpList_plain hgd fun _ hK => wp_app_row hT s x ho B v n xs hv hown ad m c news hx hl hnews h1 hn hB fun v' w' k1 k2 k3 => hK _ _ (h v' w' k1 k2 k3)
end
theorem row_none (w : World) (e : TypeId) : (w.alloc (.cells #[] e)).ownsRow w.heap.size e 1 (.slice (some ⟨w.heap.size, 0, none⟩) 0 0) 0 [] :=
  ⟨rfl, .inr ⟨w.heap.size, 0, #[], rfl, Nat.le_refl _, heap_alloc_new w _, Nat.le_refl _, by unfold maxLen; omega, rfl, rfl⟩⟩
set_option maxRecDepth 100000 in
set_option maxHeartbeats 1000000 in
theorem clone_int {w : World} {a : Option Addr} {l c : Nat} (h : Cel w a l c) : Calls Tryd.prog 29 #[.slice a l c] w (GivesSl w) := by
  have hnil := fun (w : World) (a : Option Addr) (n c : Nat) => Lib.run_eql_slice_nil (P := Tryd.prog) w 22 3 a n c 0 0 Tryd.underlying22
  have hl6 : l ≤ 1000000 := h.few
  rcases a with _ | p
  · clear h
    go_enter Tryd.func29, Tryd.ntmps29
    go_wp2_with fail
    go_ret
    exact ⟨none, 0, 0, rfl, Below.refl _ _⟩
  · obtain ⟨C, hC, hcell, hone⟩ : ∃ C : List Value, C.length = l * 1 ∧ (∀ j u, C[j]? = some u → (w.alloc (.cells #[] 3)).cell? (p.add j) = some u) ∧ ∀ v ∈ C, v.oneCell' = true := by
      rcases h.at_ with e | ⟨g, off, C, e, hl, hr, h1⟩
      · exact ⟨[], by simp [e], by simp, by simp⟩
      · cases e
        refine ⟨C, by omega, fun j u hu => ?_, h1⟩
        rw [Addr.add_mid]
        exact (World.cell?_alloc_lt w _ ⟨g, off + j, none⟩ (World.block_lt_of_cell? _ _ (hr j u hu))).trans (hr j u hu)
    have HR := Lib.hid (row_none w 3)
    have HC := Lib.hid (And.intro hC (And.intro hcell hone))
    have hn2 : 0 + l ≤ 2000000 := by omega
    have HN := Lib.hid hn2
    clear h hC hcell hone hn2
    go_enter Tryd.func29, Tryd.ntmps29
    go_wp2_with (at_builtin; refine wpList_app_row rowT_int rfl (.tmp 5) (.tmp 6) rfl w.heap.size (.slice (some ⟨w.heap.size, 0, none⟩) 0 0) 0 [] rfl HR.out p l c _ rfl HC.out.1 HC.out.2.1 HC.out.2.2 HN.out (by simp) ?_; intro v' w' hown hgr hnew)
    obtain ⟨va, vc, rfl, _, _⟩ := own_value hown
    go_ret
    exact ⟨va, 0 + l, vc, rfl, ((Below.refl _ _).alloc (Nat.le_refl _) _).grown hgr (by simp) (fun k hk => by cases hk; exact Nat.le_refl _)⟩
set_option maxRecDepth 100000 in
set_option maxHeartbeats 1000000 in
theorem clone_nat {w : World} {a : Option Addr} {l c : Nat} (h : Cel w a l c) : Calls Tryd.prog 30 #[.slice a l c] w (GivesSl w) := by
  have hnil := fun (w : World) (a : Option Addr) (n c : Nat) => Lib.run_eql_slice_nil (P := Tryd.prog) w 33 71 a n c 0 0 Tryd.underlying33
  have hl6 : l ≤ 1000000 := h.few
  rcases a with _ | p
  · clear h
    go_enter Tryd.func30, Tryd.ntmps30
    go_wp2_with fail
    go_ret
    exact ⟨none, 0, 0, rfl, Below.refl _ _⟩
  · obtain ⟨C, hC, hcell, hone⟩ : ∃ C : List Value, C.length = l * 1 ∧ (∀ j u, C[j]? = some u → (w.alloc (.cells #[] 71)).cell? (p.add j) = some u) ∧ ∀ v ∈ C, v.oneCell' = true := by
      rcases h.at_ with e | ⟨g, off, C, e, hl, hr, h1⟩
      · exact ⟨[], by simp [e], by simp, by simp⟩
      · cases e
        refine ⟨C, by omega, fun j u hu => ?_, h1⟩
        rw [Addr.add_mid]
        exact (World.cell?_alloc_lt w _ ⟨g, off + j, none⟩ (World.block_lt_of_cell? _ _ (hr j u hu))).trans (hr j u hu)
    have HR := Lib.hid (row_none w 71)
    have HC := Lib.hid (And.intro hC (And.intro hcell hone))
    have hn2 : 0 + l ≤ 2000000 := by omega
    have HN := Lib.hid hn2
    clear h hC hcell hone hn2
    go_enter Tryd.func30, Tryd.ntmps30
    go_wp2_with (at_builtin; refine wpList_app_row rowT_nat rfl (.tmp 5) (.tmp 6) rfl w.heap.size (.slice (some ⟨w.heap.size, 0, none⟩) 0 0) 0 [] rfl HR.out p l c _ rfl HC.out.1 HC.out.2.1 HC.out.2.2 HN.out (by simp) ?_; intro v' w' hown hgr hnew)
    obtain ⟨va, vc, rfl, _, _⟩ := own_value hown
    go_ret
    exact ⟨va, 0 + l, vc, rfl, ((Below.refl _ _).alloc (Nat.le_refl _) _).grown hgr (by simp) (fun k hk => by cases hk; exact Nat.le_refl _)⟩
theorem below_put {B b o : Nat} {w W : World} {v : Value} (h : Below B w W) (hb : B ≤ b) (hB : B ≤ w.heap.size) : Below B w (W.setCell ⟨b, o, none⟩ v) :=
  h.trans ((chg_setCell (S := fun j => j = b) rfl W o v).below (fun k hk => by rw [hk]; exact hb) (Nat.le_trans hB h.size))
/-- A node's cells. -/
def nd6 (x y : Int) (v1 : Value) (s : Bool) (v2 v3 : Value) : List Value := [.int .i64 x, .int .i64 y, v1, .bool s, v2, v3]
/-- A block with a node in it. -/
def NB (W : World) (b : Nat) (x y : Int) (v1 : Value) (s : Bool) (v2 v3 : Value) : Prop := W.heap[b]? = some (.cells (nd6 x y v1 s v2 v3).toArray 39 (0, 0))
section
variable {w W W' : World} {b B : Nat} {x y : Int} {v1 v2 v3 : Value} {s : Bool}
theorem NB.cells (h : NB W b x y v1 s v2 v3) : W.cell? ⟨b, 2, none⟩ = some v1 ∧ W.cell? ⟨b, 4, none⟩ = some v2 ∧ W.cell? ⟨b, 5, none⟩ = some v3 ∧ ∀ i, W.frozen? ⟨b, i, none⟩ = false := by
  unfold NB at h
  simp [World.cell?, World.frozen?, h, nd6]
theorem NB.kept (h : NB W b x y v1 s v2 v3) (hb : Below W.heap.size W W') : NB W' b x y v1 s v2 v3 := (hb.block b (Array.getElem?_eq_some_iff.1 h).1).trans h
theorem NB.lt (h : NB W b x y v1 s v2 v3) : b < W.heap.size := (Array.getElem?_eq_some_iff.1 h).1
theorem NB.range (h : NB W b x y v1 s v2 v3) : W.rangeAt b 0 (nd6 x y v1 s v2 v3) := fun j u hu => by
  unfold NB at h
  simp [World.cell?, h]
  simpa using hu
theorem NB.put2 (h : NB W b x y v1 s v2 v3) (v : Value) : NB (W.setCell ⟨b, 2, none⟩ v) b x y v s v2 v3 := by
  unfold NB at h ⊢
  rw [heap_setCell_same W b 2 _ _ _ h]
  rfl
theorem NB.put4 (h : NB W b x y v1 s v2 v3) (v : Value) : NB (W.setCell ⟨b, 4, none⟩ v) b x y v1 s v v3 := by
  unfold NB at h ⊢
  rw [heap_setCell_same W b 4 _ _ _ h]
  rfl
theorem NB.put5 (h : NB W b x y v1 s v2 v3) (v : Value) : NB (W.setCell ⟨b, 5, none⟩ v) b x y v1 s v2 v := by
  unfold NB at h ⊢
  rw [heap_setCell_same W b 5 _ _ _ h]
  rfl
theorem NB.other (h : NB W b x y v1 s v2 v3) {c i : Nat} (hc : b ≠ c) (v : Value) : NB (W.setCell ⟨c, i, none⟩ v) b x y v1 s v2 v3 := by
  unfold NB at h ⊢
  rw [heap_setCell_other _ _ _ _ hc]
  exact h
theorem nd6_one {a1 a2 a3 : Option Addr} {n1 n2 n3 c1 c2 c3 : Nat} : ∀ u ∈ nd6 x y (.slice a1 n1 c1) s (.slice a2 n2 c2) (.slice a3 n3 c3), u.oneCell' = true := by
  intro u hu
  simp only [nd6, List.mem_cons, List.not_mem_nil, or_false] at hu
  rcases hu with rfl | rfl | rfl | rfl | rfl | rfl <;> rfl
end
/-- A node in new memory. -/
def GivesNd (x y : Int) (s : Bool) (w : World) (e : Ending) (w' : World) : Prop := ∃ b1 n1 k1 b2 n2 k2 b3 n3 k3, e = .returned (.agg #[.int .i64 x, .int .i64 y, .slice b1 n1 k1, .bool s, .slice b2 n2 k2, .slice b3 n3 k3]) ∧ Below w.heap.size w w'
section
variable {w w' : World} {n : Nd} {ka : Option Addr} {kc : Nat} {s : Bool} {a1 : Option Addr} {l1 c1 : Nat} {a2 : Option Addr} {l2 c2 : Nat}
set_option maxRecDepth 100000 in
set_option maxHeartbeats 8000000 in
theorem own_any (hn : NodeAt w n ka kc s a1 l1 c1 a2 l2 c2) : Calls Tryd.prog 16 #[.agg #[.int .i64 n.op, .int .i64 n.v, .slice ka n.kids.length kc, .bool s, .slice a1 l1 c1, .slice a2 l2 c2]] w (GivesNd n.op n.v s w) := by
  have HC0 := Lib.hid (fun W (hW : Below w.heap.size w W) => clone_int (hn.kids.cel.kept hW))
  have HC1 := Lib.hid (fun W (hW : Below w.heap.size w W) => clone_nat (hn.m1.kept hW))
  have HC2 := Lib.hid (fun W (hW : Below w.heap.size w W) => clone_nat (hn.m2.kept hW))
  obtain ⟨W2, hW2⟩ : ∃ W2, W2 = (w.alloc (.cells #[.int .i64 n.op, .int .i64 n.v, .slice ka n.kids.length kc, .bool s, .slice a1 l1 c1, .slice a2 l2 c2] 39)).alloc (.cells #[.int .i64 0, .int .i64 0, .slice none 0 0, .bool false, .slice none 0 0, .slice none 0 0] 39) := ⟨_, rfl⟩
  have hb2 : Below w.heap.size w W2 := by rw [hW2]; exact ((Below.refl _ _).alloc (Nat.le_refl _) _).alloc (by simp) _
  have h1 : NB W2 w.heap.size n.op n.v (.slice ka n.kids.length kc) s (.slice a1 l1 c1) (.slice a2 l2 c2) := by
    unfold NB
    rw [hW2, Below.heap_alloc _ _ _ (by simp)]
    exact heap_alloc_new w _
  have h2 : NB W2 (w.heap.size + 1) 0 0 (.slice none 0 0) false (.slice none 0 0) (.slice none 0 0) := by
    unfold NB
    rw [hW2]
    have := heap_alloc_new (w.alloc (.cells #[.int .i64 n.op, .int .i64 n.v, .slice ka n.kids.length kc, .bool s, .slice a1 l1 c1, .slice a2 l2 c2] 39)) (.cells #[.int .i64 0, .int .i64 0, .slice none 0 0, .bool false, .slice none 0 0, .slice none 0 0] 39)
    rw [World.size_alloc] at this
    exact this
  generalize n.kids.length = kl at *
  generalize n.op = x at *
  generalize n.v = y at *
  have HB := Lib.hid hb2
  have H1 := Lib.hid h1
  have H2 := Lib.hid h2
  have hs2 : W2.heap.size = w.heap.size + 2 := by rw [hW2]; simp
  have HS := Lib.hid (show w.heap.size + 2 ≤ W2.heap.size by omega)
  obtain ⟨x1, x2, x3, x4⟩ := h1.cells
  clear hn hb2 h1 h2 hs2
  go_enter Tryd.func16, Tryd.ntmps16
  go_wp2_with fail
  rw [← hW2]
  clear hW2
  go_wp2_with fail
  refine (HC0.out _ HB.out).mono ?_
  rintro e W3 ⟨b1, n1, k1, rfl, hb⟩
  have HB' : Hid (Below w.heap.size w (W3.setCell ⟨w.heap.size, 2, none⟩ (.slice b1 n1 k1))) := Lib.hid (below_put (HB.out.trans (hb.mono HB.out.size)) (Nat.le_refl _) (Nat.le_refl _))
  have h1' := H1.out.kept hb
  have H1' := Lib.hid (h1'.put2 (.slice b1 n1 k1))
  have H2' := Lib.hid ((H2.out.kept hb).other (c := w.heap.size) (i := 2) (by omega) (.slice b1 n1 k1))
  clear x1 x2 x3 x4
  obtain ⟨x1, x2, x3, x4⟩ := h1'.cells
  clear h1' hb HB H1 H2
  have HB := HB'
  have H1 := H1'
  have H2 := H2'
  clear HB' H1' H2'
  go_wp2_with fail
  refine (HC1.out _ HB.out).mono ?_
  rintro e W4 ⟨b2, n2, k2, rfl, hb⟩
  have HB' : Hid (Below w.heap.size w (W4.setCell ⟨w.heap.size, 4, none⟩ (.slice b2 n2 k2))) := Lib.hid (below_put (HB.out.trans (hb.mono HB.out.size)) (Nat.le_refl _) (Nat.le_refl _))
  have h1' := H1.out.kept hb
  have H1' := Lib.hid (h1'.put4 (.slice b2 n2 k2))
  have H2' := Lib.hid ((H2.out.kept hb).other (c := w.heap.size) (i := 4) (by omega) (.slice b2 n2 k2))
  clear x1 x2 x3 x4
  obtain ⟨x1, x2, x3, x4⟩ := h1'.cells
  clear h1' hb HB H1 H2
  have HB := HB'
  have H1 := H1'
  have H2 := H2'
  clear HB' H1' H2'
  go_wp2_with fail
  refine (HC2.out _ HB.out).mono ?_
  rintro e W5 ⟨b3, n3, k3, rfl, hb⟩
  have HB' : Hid (Below w.heap.size w (W5.setCell ⟨w.heap.size, 5, none⟩ (.slice b3 n3 k3))) := Lib.hid (below_put (HB.out.trans (hb.mono HB.out.size)) (Nat.le_refl _) (Nat.le_refl _))
  have h1' := H1.out.kept hb
  have H1' := Lib.hid (h1'.put5 (.slice b3 n3 k3))
  have H2' := Lib.hid ((H2.out.kept hb).other (c := w.heap.size) (i := 5) (by omega) (.slice b3 n3 k3))
  clear x1 x2 x3 x4
  obtain ⟨x1, x2, x3, x4⟩ := h1'.cells
  clear h1' hb HB H1 H2
  have HB := HB'
  have H1 := H1'
  have H2 := H2'
  clear HB' H1' H2'
  have hrng := H1.out.range
  have HTH : Hid ((W5.setCell ⟨w.heap.size, 5, none⟩ (.slice b3 n3 k3)).there (w.heap.size + 1) 0 6) := Lib.hid (fun j hj => by
    have := H2.out
    unfold NB at this
    simp [World.cell?, World.frozen?, this, nd6]
    omega)
  go_wp2_with (first | (refine wpList_val (.agg (nd6 x y (.slice b1 n1 k1) s (.slice b2 n2 k2) (.slice b3 n3 k3)).toArray) (run_load_op 39 (.tmp 1) (by with_reducible rfl) w.heap.size 0 (by rfl) (nd6 x y (.slice b1 n1 k1) s (.slice b2 n2 k2) (.slice b3 n3 k3)) _ hrng Tryd.underlying39 rfl (by rw [size_node]; rfl)) (by rfl) ?_) | (refine wpList_store_mid rfl 39 (.tmp 2) (.tmp 21) rfl (w.heap.size + 1) 0 (nd6 x y (.slice b1 n1 k1) s (.slice b2 n2 k2) (.slice b3 n3 k3)).toArray rfl rfl HTH.out (by rw [size_node]; rfl) (all_oneCell_toArray nd6_one) ?_))
  have hfin : NB ((W5.setCell ⟨w.heap.size, 5, none⟩ (.slice b3 n3 k3)).setCells (w.heap.size + 1) 0 (nd6 x y (.slice b1 n1 k1) s (.slice b2 n2 k2) (.slice b3 n3 k3))) (w.heap.size + 1) x y (.slice b1 n1 k1) s (.slice b2 n2 k2) (.slice b3 n3 k3) := by
    have := heap_setCells_same (w.heap.size + 1) 39 (nd6 x y (.slice b1 n1 k1) s (.slice b2 n2 k2) (.slice b3 n3 k3)) 0 _ _ H2.out (by simp [nd6])
    unfold NB
    rw [this]
    rfl
  refine bodyPost_ret (v := .agg (nd6 x y (.slice b1 n1 k1) s (.slice b2 n2 k2) (.slice b3 n3 k3)).toArray) ?_ rfl ⟨b1, n1, k1, b2, n2, k2, b3, n3, k3, rfl, ?_⟩
  · simp only [results, Tryd.results16, asAddr, Act.put]
    have := run_loadVar_mid (P := Tryd.prog) _ (w.heap.size + 1) 0 39 (nd6 x y (.slice b1 n1 k1) s (.slice b2 n2 k2) (.slice b3 n3 k3)) _ hfin.range Tryd.underlying39 rfl (by rw [size_node]; rfl)
    simpa [results, Tryd.results16, asAddr, Act.put] using this
  · exact HB.out.trans ((chg_setCells (S := fun j => j = w.heap.size + 1) rfl _ 0 _).below (fun k hk => by rw [hk]; omega) (by have := HB.out.size; exact this))
end
end Go.Proofs.YtmiocohlklnglaaDoor
