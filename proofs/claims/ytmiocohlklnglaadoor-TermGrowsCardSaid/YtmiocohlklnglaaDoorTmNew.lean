/-
  Layer 9: operators, newRules, New, Grow, Sort, Ground.
-/
import Derived.Test.YtmiocohlklnglaaDoorTmTold
set_option linter.unusedVariables false
set_option linter.unusedSimpArgs false
namespace Go.Proofs.YtmiocohlklnglaaDoor
open Go.RowKit Tm

/-- A map that a call makes as its first thing. -/
structure MpAt (w0 w : World) (M : List (Int × Value)) : Prop where
  im : IM w w0.heap.size M
  below : Below w0.heap.size w0 w
theorem MpAt.made (w : World) : MpAt w (w.alloc (.map #[] 0)) [] := ⟨IM.made w, (Below.refl _ _).alloc (Nat.le_refl _) _⟩
theorem MpAt.put {w0 w w' : World} {M M' : List (Int × Value)} (h : MpAt w0 w M) (hc : Chg (fun j => j = w0.heap.size) w w') (hi : IM w' w0.heap.size M') : MpAt w0 w' M' :=
  ⟨hi, h.below.trans (hc.below (fun k hk => by rw [hk]; exact Nat.le_refl _) h.below.size)⟩
section
variable {P : Program} {w : World} {t k e : TypeId}
theorem wpList_mp {ops : Array Oper} {Q : Exit → Act → World → Prop} {a : Act} {rest : List Oper} {o : Oper} (hg : o.guard = none) (m x v : Operand) (ho : o.op = .insert t m x v)
    (ht : P.underlying t = some (.map k e)) (hk : P.underlying k = some (.int .i64)) (w0 : World) (hm : a.eval m = .map (some w0.heap.size)) (y : Int) (hx : a.eval x = .int .i64 y) (u : Value) (hv : a.eval v = u) (M : List (Int × Value)) (hs : Hid (MpAt w0 w M))
    (h : ∀ w', Hid (MpAt w0 w' (updI M y u)) → wpList P ops Q rest (a.put o.dst undef) w') : wpList P ops Q (o :: rest) a w :=
  wpList_upd hg m x v (.inr ho) ht hk _ hm y hx u hv M hs.out.im fun w' hi hc => h w' (Lib.hid (hs.out.put hc hi))
end
set_option maxRecDepth 100000 in
set_option maxHeartbeats 4000000 in
theorem operators_any (w : World) : Calls Tryd.prog 19 #[] w (fun e w' => e = .returned (.map (some w.heap.size)) ∧ MpAt w w' opsV) := by
  have hmm := @run_makeMap Tryd.prog
  have h0 := Lib.hid (MpAt.made w)
  go_enter Tryd.func19, Tryd.ntmps19
  go_wp2_with (refine wpList_mp rfl (.tmp 1) _ _ (by with_reducible rfl) Tryd.underlying56 Tryd.underlying3 w (by rfl) _ (by rfl) _ (by rfl) _ (by assumption) ?_; intro w' hM')
  have he : ∀ M, M = opsV → MpAt w w' M → MpAt w w' opsV := fun M e h => e ▸ h
  go_ret
  exact ⟨rfl, he _ (by kernel_rfl) hM'.out⟩
/-- Rules, made anew. -/
structure NewRu (w w' : World) (g : Ru) (R mo mg : Nat) : Prop where
  ru : RuAt w' w.heap.size R mo mg (.slice none 0 0) g
  below : Below w.heap.size w w'
def startRu (b r : Int) : Ru := ⟨(if b < 0 then 0 else b) - 1, (if r < 0 then 0 else r) - 1, []⟩
def GivesRu (b r : Int) (w : World) (e : Ending) (w' : World) : Prop := ∃ R mo mg, e = .returned (.pointer (some ⟨R, 0, none⟩)) ∧ NewRu w w' (startRu b r) R mo mg
theorem new_fin {w w1 w' : World} {x y : Int} (h1 : MpAt w w1 opsV) (h2 : MpAt w1 w' [(1, .int .i64 x), (2, .int .i64 y)]) :
    NewRu w (w'.alloc (.cells #[.map (some w.heap.size), .map (some w1.heap.size), .slice none 0 0] 60)) ⟨x, y, []⟩ w'.heap.size w.heap.size w1.heap.size := by
  have s1 := h1.im.lt
  have s2 := h2.im.lt
  have b1 : Below w'.heap.size w' (w'.alloc (.cells #[.map (some w.heap.size), .map (some w1.heap.size), .slice none 0 0] 60)) := (Below.refl _ _).alloc (Nat.le_refl _) _
  have i1 : IM w' w.heap.size opsV := h1.im.past (h2.below.block _ s1)
  refine ⟨⟨heap_alloc_new w' _, i1.past (b1.block _ i1.lt), h2.im.past (b1.block _ s2), World.ownsRow_nil _ _ _ _, by omega, Nat.le_refl _, by omega, by omega⟩, ?_⟩
  exact h1.below.trans ((h2.below.trans (b1.mono (by omega))).mono (by omega))
set_option maxRecDepth 100000 in
set_option maxHeartbeats 4000000 in
theorem newRules_any (w : World) (b r : Int) (hb : b ≤ 9223372036854775807) (hr : r ≤ 9223372036854775807) : Calls Tryd.prog 13 #[.int .i64 b, .int .i64 r] w (GivesRu b r w) := by
  have hmm := @run_makeMap Tryd.prog
  have HO := Lib.hid (operators_any w)
  go_enter Tryd.func13, Tryd.ntmps13
  go_wp2_with fail
  refine HO.out.mono ?_
  rintro e w1 ⟨rfl, h1⟩
  have H1 := Lib.hid h1
  have h0 := Lib.hid (MpAt.made w1)
  clear h1
  go_wp2_with (refine wpList_mp rfl (.tmp 6) _ _ (by with_reducible rfl) Tryd.underlying26 Tryd.underlying3 w1 (by rfl) _ (by rfl) _ (by rfl) _ (by assumption) ?_; intro w' hM')
  all_goals
    go_ret
    exact ⟨_, _, _, rfl, new_fin H1.out hM'.out⟩
end Go.Proofs.YtmiocohlklnglaaDoor
