/- By program out of: EvLaw, EvAdd. -/
import Derived.Test.YthnklohpmcebkaaGreatDoorMhemifl
set_option linter.unusedVariables false
set_option linter.unusedSimpArgs false
namespace Go.Proofs.YthnklohpmcebkaaGreatDoor
open Go.RowKit Tm Rep Ev
namespace Law
def o0 : Bool := rightB false [] []
def mkN (op v : Int) (kids : List Int) : Nd := ⟨op, v, kids, true, o0⟩
def lawN : List Nd := [mkN 3 0 [], mkN 3 1 [], mkN 4 0 [], mkN 4 1 [], mkN 7 0 [0, 1], mkN 6 0 [4], mkN 6 0 [0], mkN 6 0 [1], mkN 8 0 [6, 7], mkN 12 0 [5, 8], mkN 10 0 [0, 1], mkN 6 0 [0], mkN 8 0 [11, 1], mkN 12 0 [10, 12], mkN 9 0 [0, 1], mkN 13 0 [0, 1], mkN 12 0 [14, 15], mkN 13 0 [2, 3], mkN 12 0 [2, 3], mkN 6 0 [18], mkN 12 0 [17, 19], mkN 14 0 [2, 3], mkN 17 0 [2, 3], mkN 6 0 [22], mkN 12 0 [21, 23], mkN 16 0 [2, 3], mkN 14 0 [3, 2], mkN 12 0 [25, 26], mkN 18 0 [2, 3], mkN 19 0 [28, 3], mkN 12 0 [29, 2], mkN 11 0 [0, 2, 3], mkN 6 0 [0], mkN 11 0 [32, 3, 2], mkN 12 0 [31, 33]]
def lawE : List En := [⟨3, 0, [], 0⟩, ⟨3, 1, [], 0⟩, ⟨4, 0, [], 0⟩, ⟨4, 1, [], 0⟩, ⟨7, 0, [0, 1], 0⟩, ⟨6, 0, [4], 0⟩, ⟨6, 0, [0], 0⟩, ⟨6, 0, [1], 0⟩, ⟨8, 0, [6, 7], 0⟩, ⟨12, 0, [5, 8], 0⟩, ⟨10, 0, [0, 1], 0⟩, ⟨6, 0, [0], 0⟩, ⟨8, 0, [11, 1], 0⟩, ⟨12, 0, [10, 12], 0⟩, ⟨9, 0, [0, 1], 0⟩, ⟨13, 0, [0, 1], 0⟩, ⟨12, 0, [14, 15], 0⟩, ⟨13, 0, [2, 3], 0⟩, ⟨12, 0, [2, 3], 0⟩, ⟨6, 0, [18], 0⟩, ⟨12, 0, [17, 19], 0⟩, ⟨14, 0, [2, 3], 0⟩, ⟨17, 0, [2, 3], 0⟩, ⟨6, 0, [22], 0⟩, ⟨12, 0, [21, 23], 0⟩, ⟨16, 0, [2, 3], 0⟩, ⟨14, 0, [3, 2], 0⟩, ⟨12, 0, [25, 26], 0⟩, ⟨18, 0, [2, 3], 0⟩, ⟨19, 0, [28, 3], 0⟩, ⟨12, 0, [29, 2], 0⟩, ⟨11, 0, [0, 2, 3], 0⟩, ⟨6, 0, [0], 0⟩, ⟨11, 0, [32, 3, 2], 0⟩, ⟨12, 0, [31, 33], 0⟩]
def v4 (p q : Bool) (x y : Rat) : Vl := ((p, 0).1 && ((q, 0).1 && true), 0)
def v5 (p q : Bool) (x y : Rat) : Vl := (!(v4 p q x y).1, 0)
def v6 (p q : Bool) (x y : Rat) : Vl := (!(p, 0).1, 0)
def v7 (p q : Bool) (x y : Rat) : Vl := (!(q, 0).1, 0)
def v8 (p q : Bool) (x y : Rat) : Vl := ((v6 p q x y).1 || ((v7 p q x y).1 || false), 0)
def v9 (p q : Bool) (x y : Rat) : Vl := (ordB 12 (v5 p q x y) (v8 p q x y) && true, 0)
def v10 (p q : Bool) (x y : Rat) : Vl := ((q, 0).1 || !((p, 0).1 && true), 0)
def v11 (p q : Bool) (x y : Rat) : Vl := (!(p, 0).1, 0)
def v12 (p q : Bool) (x y : Rat) : Vl := ((v11 p q x y).1 || ((q, 0).1 || false), 0)
def v13 (p q : Bool) (x y : Rat) : Vl := (ordB 12 (v10 p q x y) (v12 p q x y) && true, 0)
def v14 (p q : Bool) (x y : Rat) : Vl := ((false != (p, 0).1) != (q, 0).1, 0)
def v15 (p q : Bool) (x y : Rat) : Vl := (inOrder (ordB 14) [(p, 0), (q, 0), (false, x), (false, y)] (sort2 [(p, 0), (q, 0), (false, x), (false, y)] 0 1), 0)
def v16 (p q : Bool) (x y : Rat) : Vl := (ordB 12 (v14 p q x y) (v15 p q x y) && true, 0)
def v17 (p q : Bool) (x y : Rat) : Vl := (inOrder (ordB 14) [(p, 0), (q, 0), (false, x), (false, y)] (sort2 [(p, 0), (q, 0), (false, x), (false, y)] 2 3), 0)
def v18 (p q : Bool) (x y : Rat) : Vl := (ordB 12 (false, x) (false, y) && true, 0)
def v19 (p q : Bool) (x y : Rat) : Vl := (!(v18 p q x y).1, 0)
def v20 (p q : Bool) (x y : Rat) : Vl := (ordB 12 (v17 p q x y) (v19 p q x y) && true, 0)
def v21 (p q : Bool) (x y : Rat) : Vl := (ordB 14 (false, x) (false, y) && true, 0)
def v22 (p q : Bool) (x y : Rat) : Vl := (ordB 17 (false, x) (false, y) && true, 0)
def v23 (p q : Bool) (x y : Rat) : Vl := (!(v22 p q x y).1, 0)
def v24 (p q : Bool) (x y : Rat) : Vl := (ordB 12 (v21 p q x y) (v23 p q x y) && true, 0)
def v25 (p q : Bool) (x y : Rat) : Vl := (ordB 16 (false, x) (false, y) && true, 0)
def v26 (p q : Bool) (x y : Rat) : Vl := (ordB 14 (false, y) (false, x) && true, 0)
def v27 (p q : Bool) (x y : Rat) : Vl := (ordB 12 (v25 p q x y) (v26 p q x y) && true, 0)
def v28 (p q : Bool) (x y : Rat) : Vl := (false, (false, x).2 + (false, y).2)
def v29 (p q : Bool) (x y : Rat) : Vl := (false, (v28 p q x y).2 - (false, y).2)
def v30 (p q : Bool) (x y : Rat) : Vl := (ordB 12 (v29 p q x y) (false, x) && true, 0)
def v31 (p q : Bool) (x y : Rat) : Vl := (if (p, 0).1 = true then (false, x) else (false, y))
def v32 (p q : Bool) (x y : Rat) : Vl := (!(p, 0).1, 0)
def v33 (p q : Bool) (x y : Rat) : Vl := (if (v32 p q x y).1 = true then (false, y) else (false, x))
def v34 (p q : Bool) (x y : Rat) : Vl := (ordB 12 (v31 p q x y) (v33 p q x y) && true, 0)
def lawV (p q : Bool) (x y : Rat) : List Vl := [(p, 0), (q, 0), (false, x), (false, y), v4 p q x y, v5 p q x y, v6 p q x y, v7 p q x y, v8 p q x y, v9 p q x y, v10 p q x y, v11 p q x y, v12 p q x y, v13 p q x y, v14 p q x y, v15 p q x y, v16 p q x y, v17 p q x y, v18 p q x y, v19 p q x y, v20 p q x y, v21 p q x y, v22 p q x y, v23 p q x y, v24 p q x y, v25 p q x y, v26 p q x y, v27 p q x y, v28 p q x y, v29 p q x y, v30 p q x y, v31 p q x y, v32 p q x y, v33 p q x y, v34 p q x y]
def lawA : List Int := [9, 13, 16, 20, 24, 27, 30, 34]
set_option maxRecDepth 100000
theorem law_runs : runs (startRu 2 2) lawN = true := by decide +kernel
theorem law_sorts : lawA.any (notTruth (after (startRu 2 2) lawN)) = false := by decide +kernel
section
variable (p q : Bool) (x y : Rat)
theorem lv0 : Ev.value [p, q] [x, y] ((lawV p q x y).take 0) ⟨3, 0, [], 0⟩ = (p, 0) := by rfl
theorem lv1 : Ev.value [p, q] [x, y] ((lawV p q x y).take 1) ⟨3, 1, [], 0⟩ = (q, 0) := by rfl
theorem lv2 : Ev.value [p, q] [x, y] ((lawV p q x y).take 2) ⟨4, 0, [], 0⟩ = (false, x) := by rfl
theorem lv3 : Ev.value [p, q] [x, y] ((lawV p q x y).take 3) ⟨4, 1, [], 0⟩ = (false, y) := by rfl
theorem lv4 : Ev.value [p, q] [x, y] ((lawV p q x y).take 4) ⟨7, 0, [0, 1], 0⟩ = v4 p q x y := by rfl
theorem lv5 : Ev.value [p, q] [x, y] ((lawV p q x y).take 5) ⟨6, 0, [4], 0⟩ = v5 p q x y := by rfl
theorem lv6 : Ev.value [p, q] [x, y] ((lawV p q x y).take 6) ⟨6, 0, [0], 0⟩ = v6 p q x y := by rfl
theorem lv7 : Ev.value [p, q] [x, y] ((lawV p q x y).take 7) ⟨6, 0, [1], 0⟩ = v7 p q x y := by rfl
theorem lv8 : Ev.value [p, q] [x, y] ((lawV p q x y).take 8) ⟨8, 0, [6, 7], 0⟩ = v8 p q x y := by rfl
theorem lv9 : Ev.value [p, q] [x, y] ((lawV p q x y).take 9) ⟨12, 0, [5, 8], 0⟩ = v9 p q x y := by rfl
theorem lv10 : Ev.value [p, q] [x, y] ((lawV p q x y).take 10) ⟨10, 0, [0, 1], 0⟩ = v10 p q x y := by rfl
theorem lv11 : Ev.value [p, q] [x, y] ((lawV p q x y).take 11) ⟨6, 0, [0], 0⟩ = v11 p q x y := by rfl
theorem lv12 : Ev.value [p, q] [x, y] ((lawV p q x y).take 12) ⟨8, 0, [11, 1], 0⟩ = v12 p q x y := by rfl
theorem lv13 : Ev.value [p, q] [x, y] ((lawV p q x y).take 13) ⟨12, 0, [10, 12], 0⟩ = v13 p q x y := by rfl
theorem lv14 : Ev.value [p, q] [x, y] ((lawV p q x y).take 14) ⟨9, 0, [0, 1], 0⟩ = v14 p q x y := by rfl
theorem lv15 : Ev.value [p, q] [x, y] ((lawV p q x y).take 15) ⟨13, 0, [0, 1], 0⟩ = v15 p q x y := by
  have e : ∀ z, (z = 0 ∨ z = 1) → vat ((lawV p q x y).take 15) z = vat [(p, 0), (q, 0), (false, x), (false, y)] z := by rintro z (rfl | rfl) <;> rfl
  show (Ev.truth [p, q] ((lawV p q x y).take 15) ⟨13, 0, [0, 1], 0⟩, 0) = _
  show (inOrder (ordB 14) ((lawV p q x y).take 15) (sort2 ((lawV p q x y).take 15) 0 1), 0) = _
  unfold v15
  have e2 : sort2 ((lawV p q x y).take 15) 0 1 = sort2 [(p, 0), (q, 0), (false, x), (false, y)] 0 1 := by unfold sort2; rw [e _ (.inl rfl), e _ (.inr rfl)]
  rw [e2]
  unfold sort2
  split <;> rfl
theorem lv16 : Ev.value [p, q] [x, y] ((lawV p q x y).take 16) ⟨12, 0, [14, 15], 0⟩ = v16 p q x y := by rfl
theorem lv17 : Ev.value [p, q] [x, y] ((lawV p q x y).take 17) ⟨13, 0, [2, 3], 0⟩ = v17 p q x y := by
  have e : ∀ z, (z = 2 ∨ z = 3) → vat ((lawV p q x y).take 17) z = vat [(p, 0), (q, 0), (false, x), (false, y)] z := by rintro z (rfl | rfl) <;> rfl
  show (Ev.truth [p, q] ((lawV p q x y).take 17) ⟨13, 0, [2, 3], 0⟩, 0) = _
  show (inOrder (ordB 14) ((lawV p q x y).take 17) (sort2 ((lawV p q x y).take 17) 2 3), 0) = _
  unfold v17
  have e2 : sort2 ((lawV p q x y).take 17) 2 3 = sort2 [(p, 0), (q, 0), (false, x), (false, y)] 2 3 := by unfold sort2; rw [e _ (.inl rfl), e _ (.inr rfl)]
  rw [e2]
  unfold sort2
  split <;> rfl
theorem lv18 : Ev.value [p, q] [x, y] ((lawV p q x y).take 18) ⟨12, 0, [2, 3], 0⟩ = v18 p q x y := by rfl
theorem lv19 : Ev.value [p, q] [x, y] ((lawV p q x y).take 19) ⟨6, 0, [18], 0⟩ = v19 p q x y := by rfl
theorem lv20 : Ev.value [p, q] [x, y] ((lawV p q x y).take 20) ⟨12, 0, [17, 19], 0⟩ = v20 p q x y := by rfl
theorem lv21 : Ev.value [p, q] [x, y] ((lawV p q x y).take 21) ⟨14, 0, [2, 3], 0⟩ = v21 p q x y := by rfl
theorem lv22 : Ev.value [p, q] [x, y] ((lawV p q x y).take 22) ⟨17, 0, [2, 3], 0⟩ = v22 p q x y := by rfl
theorem lv23 : Ev.value [p, q] [x, y] ((lawV p q x y).take 23) ⟨6, 0, [22], 0⟩ = v23 p q x y := by rfl
theorem lv24 : Ev.value [p, q] [x, y] ((lawV p q x y).take 24) ⟨12, 0, [21, 23], 0⟩ = v24 p q x y := by rfl
theorem lv25 : Ev.value [p, q] [x, y] ((lawV p q x y).take 25) ⟨16, 0, [2, 3], 0⟩ = v25 p q x y := by rfl
theorem lv26 : Ev.value [p, q] [x, y] ((lawV p q x y).take 26) ⟨14, 0, [3, 2], 0⟩ = v26 p q x y := by rfl
theorem lv27 : Ev.value [p, q] [x, y] ((lawV p q x y).take 27) ⟨12, 0, [25, 26], 0⟩ = v27 p q x y := by rfl
theorem lv28 : Ev.value [p, q] [x, y] ((lawV p q x y).take 28) ⟨18, 0, [2, 3], 0⟩ = v28 p q x y := by rfl
theorem lv29 : Ev.value [p, q] [x, y] ((lawV p q x y).take 29) ⟨19, 0, [28, 3], 0⟩ = v29 p q x y := by rfl
theorem lv30 : Ev.value [p, q] [x, y] ((lawV p q x y).take 30) ⟨12, 0, [29, 2], 0⟩ = v30 p q x y := by rfl
theorem lv31 : Ev.value [p, q] [x, y] ((lawV p q x y).take 31) ⟨11, 0, [0, 2, 3], 0⟩ = v31 p q x y := by rfl
theorem lv32 : Ev.value [p, q] [x, y] ((lawV p q x y).take 32) ⟨6, 0, [0], 0⟩ = v32 p q x y := by rfl
theorem lv33 : Ev.value [p, q] [x, y] ((lawV p q x y).take 33) ⟨11, 0, [32, 3, 2], 0⟩ = v33 p q x y := by rfl
theorem lv34 : Ev.value [p, q] [x, y] ((lawV p q x y).take 34) ⟨12, 0, [31, 33], 0⟩ = v34 p q x y := by rfl
theorem law_take0 : values [p, q] [x, y] [] (lawE.take 0) = (lawV p q x y).take 0 := rfl
theorem law_take1 : values [p, q] [x, y] [] (lawE.take 1) = (lawV p q x y).take 1 := by
  rw [values_take (k := 0) (n := ⟨3, 0, [], 0⟩) rfl, law_take0, lv0]
  rfl
theorem law_take2 : values [p, q] [x, y] [] (lawE.take 2) = (lawV p q x y).take 2 := by
  rw [values_take (k := 1) (n := ⟨3, 1, [], 0⟩) rfl, law_take1, lv1]
  rfl
theorem law_take3 : values [p, q] [x, y] [] (lawE.take 3) = (lawV p q x y).take 3 := by
  rw [values_take (k := 2) (n := ⟨4, 0, [], 0⟩) rfl, law_take2, lv2]
  rfl
theorem law_take4 : values [p, q] [x, y] [] (lawE.take 4) = (lawV p q x y).take 4 := by
  rw [values_take (k := 3) (n := ⟨4, 1, [], 0⟩) rfl, law_take3, lv3]
  rfl
theorem law_take5 : values [p, q] [x, y] [] (lawE.take 5) = (lawV p q x y).take 5 := by
  rw [values_take (k := 4) (n := ⟨7, 0, [0, 1], 0⟩) rfl, law_take4, lv4]
  rfl
theorem law_take6 : values [p, q] [x, y] [] (lawE.take 6) = (lawV p q x y).take 6 := by
  rw [values_take (k := 5) (n := ⟨6, 0, [4], 0⟩) rfl, law_take5, lv5]
  rfl
theorem law_take7 : values [p, q] [x, y] [] (lawE.take 7) = (lawV p q x y).take 7 := by
  rw [values_take (k := 6) (n := ⟨6, 0, [0], 0⟩) rfl, law_take6, lv6]
  rfl
theorem law_take8 : values [p, q] [x, y] [] (lawE.take 8) = (lawV p q x y).take 8 := by
  rw [values_take (k := 7) (n := ⟨6, 0, [1], 0⟩) rfl, law_take7, lv7]
  rfl
theorem law_take9 : values [p, q] [x, y] [] (lawE.take 9) = (lawV p q x y).take 9 := by
  rw [values_take (k := 8) (n := ⟨8, 0, [6, 7], 0⟩) rfl, law_take8, lv8]
  rfl
theorem law_take10 : values [p, q] [x, y] [] (lawE.take 10) = (lawV p q x y).take 10 := by
  rw [values_take (k := 9) (n := ⟨12, 0, [5, 8], 0⟩) rfl, law_take9, lv9]
  rfl
theorem law_take11 : values [p, q] [x, y] [] (lawE.take 11) = (lawV p q x y).take 11 := by
  rw [values_take (k := 10) (n := ⟨10, 0, [0, 1], 0⟩) rfl, law_take10, lv10]
  rfl
theorem law_take12 : values [p, q] [x, y] [] (lawE.take 12) = (lawV p q x y).take 12 := by
  rw [values_take (k := 11) (n := ⟨6, 0, [0], 0⟩) rfl, law_take11, lv11]
  rfl
theorem law_take13 : values [p, q] [x, y] [] (lawE.take 13) = (lawV p q x y).take 13 := by
  rw [values_take (k := 12) (n := ⟨8, 0, [11, 1], 0⟩) rfl, law_take12, lv12]
  rfl
theorem law_take14 : values [p, q] [x, y] [] (lawE.take 14) = (lawV p q x y).take 14 := by
  rw [values_take (k := 13) (n := ⟨12, 0, [10, 12], 0⟩) rfl, law_take13, lv13]
  rfl
theorem law_take15 : values [p, q] [x, y] [] (lawE.take 15) = (lawV p q x y).take 15 := by
  rw [values_take (k := 14) (n := ⟨9, 0, [0, 1], 0⟩) rfl, law_take14, lv14]
  rfl
theorem law_take16 : values [p, q] [x, y] [] (lawE.take 16) = (lawV p q x y).take 16 := by
  rw [values_take (k := 15) (n := ⟨13, 0, [0, 1], 0⟩) rfl, law_take15, lv15]
  rfl
theorem law_take17 : values [p, q] [x, y] [] (lawE.take 17) = (lawV p q x y).take 17 := by
  rw [values_take (k := 16) (n := ⟨12, 0, [14, 15], 0⟩) rfl, law_take16, lv16]
  rfl
theorem law_take18 : values [p, q] [x, y] [] (lawE.take 18) = (lawV p q x y).take 18 := by
  rw [values_take (k := 17) (n := ⟨13, 0, [2, 3], 0⟩) rfl, law_take17, lv17]
  rfl
theorem law_take19 : values [p, q] [x, y] [] (lawE.take 19) = (lawV p q x y).take 19 := by
  rw [values_take (k := 18) (n := ⟨12, 0, [2, 3], 0⟩) rfl, law_take18, lv18]
  rfl
theorem law_take20 : values [p, q] [x, y] [] (lawE.take 20) = (lawV p q x y).take 20 := by
  rw [values_take (k := 19) (n := ⟨6, 0, [18], 0⟩) rfl, law_take19, lv19]
  rfl
theorem law_take21 : values [p, q] [x, y] [] (lawE.take 21) = (lawV p q x y).take 21 := by
  rw [values_take (k := 20) (n := ⟨12, 0, [17, 19], 0⟩) rfl, law_take20, lv20]
  rfl
theorem law_take22 : values [p, q] [x, y] [] (lawE.take 22) = (lawV p q x y).take 22 := by
  rw [values_take (k := 21) (n := ⟨14, 0, [2, 3], 0⟩) rfl, law_take21, lv21]
  rfl
theorem law_take23 : values [p, q] [x, y] [] (lawE.take 23) = (lawV p q x y).take 23 := by
  rw [values_take (k := 22) (n := ⟨17, 0, [2, 3], 0⟩) rfl, law_take22, lv22]
  rfl
theorem law_take24 : values [p, q] [x, y] [] (lawE.take 24) = (lawV p q x y).take 24 := by
  rw [values_take (k := 23) (n := ⟨6, 0, [22], 0⟩) rfl, law_take23, lv23]
  rfl
theorem law_take25 : values [p, q] [x, y] [] (lawE.take 25) = (lawV p q x y).take 25 := by
  rw [values_take (k := 24) (n := ⟨12, 0, [21, 23], 0⟩) rfl, law_take24, lv24]
  rfl
theorem law_take26 : values [p, q] [x, y] [] (lawE.take 26) = (lawV p q x y).take 26 := by
  rw [values_take (k := 25) (n := ⟨16, 0, [2, 3], 0⟩) rfl, law_take25, lv25]
  rfl
theorem law_take27 : values [p, q] [x, y] [] (lawE.take 27) = (lawV p q x y).take 27 := by
  rw [values_take (k := 26) (n := ⟨14, 0, [3, 2], 0⟩) rfl, law_take26, lv26]
  rfl
theorem law_take28 : values [p, q] [x, y] [] (lawE.take 28) = (lawV p q x y).take 28 := by
  rw [values_take (k := 27) (n := ⟨12, 0, [25, 26], 0⟩) rfl, law_take27, lv27]
  rfl
theorem law_take29 : values [p, q] [x, y] [] (lawE.take 29) = (lawV p q x y).take 29 := by
  rw [values_take (k := 28) (n := ⟨18, 0, [2, 3], 0⟩) rfl, law_take28, lv28]
  rfl
theorem law_take30 : values [p, q] [x, y] [] (lawE.take 30) = (lawV p q x y).take 30 := by
  rw [values_take (k := 29) (n := ⟨19, 0, [28, 3], 0⟩) rfl, law_take29, lv29]
  rfl
theorem law_take31 : values [p, q] [x, y] [] (lawE.take 31) = (lawV p q x y).take 31 := by
  rw [values_take (k := 30) (n := ⟨12, 0, [29, 2], 0⟩) rfl, law_take30, lv30]
  rfl
theorem law_take32 : values [p, q] [x, y] [] (lawE.take 32) = (lawV p q x y).take 32 := by
  rw [values_take (k := 31) (n := ⟨11, 0, [0, 2, 3], 0⟩) rfl, law_take31, lv31]
  rfl
theorem law_take33 : values [p, q] [x, y] [] (lawE.take 33) = (lawV p q x y).take 33 := by
  rw [values_take (k := 32) (n := ⟨6, 0, [0], 0⟩) rfl, law_take32, lv32]
  rfl
theorem law_take34 : values [p, q] [x, y] [] (lawE.take 34) = (lawV p q x y).take 34 := by
  rw [values_take (k := 33) (n := ⟨11, 0, [32, 3, 2], 0⟩) rfl, law_take33, lv33]
  rfl
theorem law_take35 : values [p, q] [x, y] [] (lawE.take 35) = (lawV p q x y).take 35 := by
  rw [values_take (k := 34) (n := ⟨12, 0, [31, 33], 0⟩) rfl, law_take34, lv34]
  rfl
theorem law_vals : values [p, q] [x, y] [] lawE = lawV p q x y := law_take35 p q x y
end
theorem cmpQ_self (x : Rat) : cmpQ x x = 0 := by
  unfold cmpQ
  rw [if_neg (Rat.lt_irrefl), if_pos rfl]
theorem law_true (p q : Bool) (x y : Rat) : lawA.any (fun a => !isT (lawV p q x y) a) = false := by
  have hs : x + y - y = x := by grind
  have h0 : cmpQ 0 0 = 0 := cmpQ_self 0
  have hx := cmpQ_self x
  have hy := cmpQ_self y
  have hneg : cmpQ y x = -cmpQ x y := cmpQ_neg y x
  have hv := cmpQ_vals x y
  have a9 : (v9 p q x y).1 = true := by cases p <;> cases q <;> simp [v9, v5, v8, v4, v6, v7, ordB, cmpV, h0]
  have a13 : (v13 p q x y).1 = true := by cases p <;> cases q <;> simp [v13, v10, v12, v11, ordB, cmpV, h0]
  have a16 : (v16 p q x y).1 = true := by cases p <;> cases q <;> simp [v16, v14, v15, ordB, cmpV, h0, sort2, vat, inOrder, pairOk, kid, List.range, List.range.loop]
  have a20 : (v20 p q x y).1 = true := by rcases hv with h | h | h <;> simp [v20, v17, v19, v18, ordB, cmpV, h0, sort2, vat, inOrder, pairOk, kid, List.range, List.range.loop, hneg, h]
  have a24 : (v24 p q x y).1 = true := by rcases hv with h | h | h <;> simp [v24, v21, v23, v22, ordB, cmpV, h0, hneg, h]
  have a27 : (v27 p q x y).1 = true := by rcases hv with h | h | h <;> simp [v27, v25, v26, ordB, cmpV, h0, hneg, h]
  have a30 : (v30 p q x y).1 = true := by simp [v30, v29, v28, ordB, cmpV, hs, hx]
  have a34 : (v34 p q x y).1 = true := by cases p <;> simp [v34, v31, v33, v32, ordB, cmpV, hx, hy]
  have e9 : isT (lawV p q x y) 9 = true := a9
  have e13 : isT (lawV p q x y) 13 = true := a13
  have e16 : isT (lawV p q x y) 16 = true := a16
  have e20 : isT (lawV p q x y) 20 = true := a20
  have e24 : isT (lawV p q x y) 24 = true := a24
  have e27 : isT (lawV p q x y) 27 = true := a27
  have e30 : isT (lawV p q x y) 30 = true := a30
  have e34 : isT (lawV p q x y) 34 = true := a34
  simp [lawA, e9, e13, e16, e20, e24, e27, e30, e34]
theorem law_size (p q : Bool) (x y : Rat) (hx : szQ x ≤ 6) (hy : szQ y ≤ 6) : ∀ v ∈ lawV p q x y, szQ v.2 ≤ 48 := by
  have h1 := szQ_add x y
  have h2 := szQ_sub (x + y) y
  have z0 : szQ 0 ≤ 48 := by rw [szQ_zero]; omega
  have ite : ∀ (b : Bool) (u v : Vl), szQ u.2 ≤ 48 → szQ v.2 ≤ 48 → szQ (if b = true then u else v).2 ≤ 48 := fun b u v hu hv => by cases b <;> assumption
  intro v hv
  simp only [lawV, List.mem_cons, List.not_mem_nil, or_false] at hv
  rcases hv with rfl | rfl | rfl | rfl | rfl | rfl | rfl | rfl | rfl | rfl | rfl | rfl | rfl | rfl | rfl | rfl | rfl | rfl | rfl | rfl | rfl | rfl | rfl | rfl | rfl | rfl | rfl | rfl | rfl | rfl | rfl | rfl | rfl | rfl | rfl
  · exact z0
  · exact z0
  · show szQ x ≤ 48; omega
  · show szQ y ≤ 48; omega
  · exact z0
  · exact z0
  · exact z0
  · exact z0
  · exact z0
  · exact z0
  · exact z0
  · exact z0
  · exact z0
  · exact z0
  · exact z0
  · exact z0
  · exact z0
  · exact z0
  · exact z0
  · exact z0
  · exact z0
  · exact z0
  · exact z0
  · exact z0
  · exact z0
  · exact z0
  · exact z0
  · exact z0
  · show szQ (x + y) ≤ 48; omega
  · show szQ (x + y - y) ≤ 48; omega
  · exact z0
  · exact ite _ _ _ (by first | (show szQ x ≤ 48; omega) | (show szQ y ≤ 48; omega)) (by first | (show szQ x ≤ 48; omega) | (show szQ y ≤ 48; omega))
  · exact z0
  · exact ite _ _ _ (by first | (show szQ x ≤ 48; omega) | (show szQ y ≤ 48; omega)) (by first | (show szQ x ≤ 48; omega) | (show szQ y ≤ 48; omega))
  · exact z0
theorem fold_sm {m : Nat} {F : Rat → Rat → Rat} {vs : List Vl} {a : Rat} {z : Int} (h0 : szQ a ≤ 48) (h1 : szQ (F a (numOf vs z)) ≤ 48) (h2 : szQ (F a (numOf vs z)) ≤ m) : FoldSm m F vs a [z] := by
  intro j
  match j with
  | 0 => exact ⟨h0, fun e => absurd e (by omega)⟩
  | j + 1 => exact ⟨by simpa [Ev.fold] using h1, fun _ => by simpa [Ev.fold] using h2⟩
theorem law_fit (p q : Bool) (x y : Rat) (hx : szQ x ≤ 6) (hy : szQ y ≤ 6) : ∀ (k : Nat) (n : En), lawE[k]? = some n → Fit 2 2 k n ∧ (1 ≤ n.op ∧ n.op ≤ 19) ∧ NodeSm 200 (values [p, q] [x, y] [] (lawE.take k)) n := by
  have h1 := szQ_add x y
  have h2 := szQ_sub (x + y) y
  intro k n h
  match k, h with
  | 0, h => obtain rfl := Option.some.inj h.symm; exact ⟨fit_of (by decide), by decide, ⟨fun e => absurd e (by decide), fun e => absurd e (by decide)⟩⟩
  | 1, h => obtain rfl := Option.some.inj h.symm; exact ⟨fit_of (by decide), by decide, ⟨fun e => absurd e (by decide), fun e => absurd e (by decide)⟩⟩
  | 2, h => obtain rfl := Option.some.inj h.symm; exact ⟨fit_of (by decide), by decide, ⟨fun e => absurd e (by decide), fun e => absurd e (by decide)⟩⟩
  | 3, h => obtain rfl := Option.some.inj h.symm; exact ⟨fit_of (by decide), by decide, ⟨fun e => absurd e (by decide), fun e => absurd e (by decide)⟩⟩
  | 4, h => obtain rfl := Option.some.inj h.symm; exact ⟨fit_of (by decide), by decide, ⟨fun e => absurd e (by decide), fun e => absurd e (by decide)⟩⟩
  | 5, h => obtain rfl := Option.some.inj h.symm; exact ⟨fit_of (by decide), by decide, ⟨fun e => absurd e (by decide), fun e => absurd e (by decide)⟩⟩
  | 6, h => obtain rfl := Option.some.inj h.symm; exact ⟨fit_of (by decide), by decide, ⟨fun e => absurd e (by decide), fun e => absurd e (by decide)⟩⟩
  | 7, h => obtain rfl := Option.some.inj h.symm; exact ⟨fit_of (by decide), by decide, ⟨fun e => absurd e (by decide), fun e => absurd e (by decide)⟩⟩
  | 8, h => obtain rfl := Option.some.inj h.symm; exact ⟨fit_of (by decide), by decide, ⟨fun e => absurd e (by decide), fun e => absurd e (by decide)⟩⟩
  | 9, h => obtain rfl := Option.some.inj h.symm; exact ⟨fit_of (by decide), by decide, ⟨fun e => absurd e (by decide), fun e => absurd e (by decide)⟩⟩
  | 10, h => obtain rfl := Option.some.inj h.symm; exact ⟨fit_of (by decide), by decide, ⟨fun e => absurd e (by decide), fun e => absurd e (by decide)⟩⟩
  | 11, h => obtain rfl := Option.some.inj h.symm; exact ⟨fit_of (by decide), by decide, ⟨fun e => absurd e (by decide), fun e => absurd e (by decide)⟩⟩
  | 12, h => obtain rfl := Option.some.inj h.symm; exact ⟨fit_of (by decide), by decide, ⟨fun e => absurd e (by decide), fun e => absurd e (by decide)⟩⟩
  | 13, h => obtain rfl := Option.some.inj h.symm; exact ⟨fit_of (by decide), by decide, ⟨fun e => absurd e (by decide), fun e => absurd e (by decide)⟩⟩
  | 14, h => obtain rfl := Option.some.inj h.symm; exact ⟨fit_of (by decide), by decide, ⟨fun e => absurd e (by decide), fun e => absurd e (by decide)⟩⟩
  | 15, h => obtain rfl := Option.some.inj h.symm; exact ⟨fit_of (by decide), by decide, ⟨fun e => absurd e (by decide), fun e => absurd e (by decide)⟩⟩
  | 16, h => obtain rfl := Option.some.inj h.symm; exact ⟨fit_of (by decide), by decide, ⟨fun e => absurd e (by decide), fun e => absurd e (by decide)⟩⟩
  | 17, h => obtain rfl := Option.some.inj h.symm; exact ⟨fit_of (by decide), by decide, ⟨fun e => absurd e (by decide), fun e => absurd e (by decide)⟩⟩
  | 18, h => obtain rfl := Option.some.inj h.symm; exact ⟨fit_of (by decide), by decide, ⟨fun e => absurd e (by decide), fun e => absurd e (by decide)⟩⟩
  | 19, h => obtain rfl := Option.some.inj h.symm; exact ⟨fit_of (by decide), by decide, ⟨fun e => absurd e (by decide), fun e => absurd e (by decide)⟩⟩
  | 20, h => obtain rfl := Option.some.inj h.symm; exact ⟨fit_of (by decide), by decide, ⟨fun e => absurd e (by decide), fun e => absurd e (by decide)⟩⟩
  | 21, h => obtain rfl := Option.some.inj h.symm; exact ⟨fit_of (by decide), by decide, ⟨fun e => absurd e (by decide), fun e => absurd e (by decide)⟩⟩
  | 22, h => obtain rfl := Option.some.inj h.symm; exact ⟨fit_of (by decide), by decide, ⟨fun e => absurd e (by decide), fun e => absurd e (by decide)⟩⟩
  | 23, h => obtain rfl := Option.some.inj h.symm; exact ⟨fit_of (by decide), by decide, ⟨fun e => absurd e (by decide), fun e => absurd e (by decide)⟩⟩
  | 24, h => obtain rfl := Option.some.inj h.symm; exact ⟨fit_of (by decide), by decide, ⟨fun e => absurd e (by decide), fun e => absurd e (by decide)⟩⟩
  | 25, h => obtain rfl := Option.some.inj h.symm; exact ⟨fit_of (by decide), by decide, ⟨fun e => absurd e (by decide), fun e => absurd e (by decide)⟩⟩
  | 26, h => obtain rfl := Option.some.inj h.symm; exact ⟨fit_of (by decide), by decide, ⟨fun e => absurd e (by decide), fun e => absurd e (by decide)⟩⟩
  | 27, h => obtain rfl := Option.some.inj h.symm; exact ⟨fit_of (by decide), by decide, ⟨fun e => absurd e (by decide), fun e => absurd e (by decide)⟩⟩
  | 28, h => obtain rfl := Option.some.inj h.symm; exact ⟨fit_of (by decide), by decide, ⟨fun _ => by rw [law_take28]; exact fold_sm (a := x) (by omega) (by show szQ (x + y) ≤ 48; omega) (by show szQ (x + y) ≤ 200; omega), fun e => absurd e (by decide)⟩⟩
  | 29, h => obtain rfl := Option.some.inj h.symm; exact ⟨fit_of (by decide), by decide, ⟨fun e => absurd e (by decide), fun _ => ⟨by decide, by rw [law_take29]; exact fold_sm (a := x + y) (by omega) (by show szQ (x + y - y) ≤ 48; omega) (by show szQ (x + y - y) ≤ 200; omega)⟩⟩⟩
  | 30, h => obtain rfl := Option.some.inj h.symm; exact ⟨fit_of (by decide), by decide, ⟨fun e => absurd e (by decide), fun e => absurd e (by decide)⟩⟩
  | 31, h => obtain rfl := Option.some.inj h.symm; exact ⟨fit_of (by decide), by decide, ⟨fun e => absurd e (by decide), fun e => absurd e (by decide)⟩⟩
  | 32, h => obtain rfl := Option.some.inj h.symm; exact ⟨fit_of (by decide), by decide, ⟨fun e => absurd e (by decide), fun e => absurd e (by decide)⟩⟩
  | 33, h => obtain rfl := Option.some.inj h.symm; exact ⟨fit_of (by decide), by decide, ⟨fun e => absurd e (by decide), fun e => absurd e (by decide)⟩⟩
  | 34, h => obtain rfl := Option.some.inj h.symm; exact ⟨fit_of (by decide), by decide, ⟨fun e => absurd e (by decide), fun e => absurd e (by decide)⟩⟩
  | k + 35, h => simp [lawE] at h
end Law
end Go.Proofs.YthnklohpmcebkaaGreatDoor

set_option linter.unusedVariables false
set_option linter.unusedSimpArgs false
namespace Go.Proofs.YthnklohpmcebkaaGreatDoor
open Go.RowKit Tm Rep Ev Law
def nodeOf (op v : Int) (ka : Option Addr) (kc : Nat) (kids : List Int) : HN := ⟨op, v, ka, kc, kids, false, none, 0, [], none, 0, []⟩
structure KOk (W : World) (d : HN) : Prop where
  is : ∃ op v ka kc kids, d = nodeOf op v ka kc kids ∧ kids.length ≤ 12 ∧ ((kids = [] ∧ ka = none ∧ kc = 0) ∨ ∃ g, ka = some ⟨g, 0, none⟩ ∧ kc = kids.length ∧ W.heap[g]? = some (.cells (i64s kids).toArray 3 (0, 0)))
theorem KOk.chg {W W' : World} {d : HN} (h : KOk W d) {S : Nat → Prop} (hc : Chg S W W') (hS : ∀ g C, W.heap[g]? = some (.cells C 3 (0, 0)) → ¬ S g) : KOk W' d := by
  obtain ⟨op, v, ka, kc, kids, e, hl, h | ⟨g, e1, e2, hg⟩⟩ := h.is
  · exact ⟨⟨op, v, ka, kc, kids, e, hl, .inl h⟩⟩
  · exact ⟨⟨op, v, ka, kc, kids, e, hl, .inr ⟨g, e1, e2, (hc.block g (Array.getElem?_eq_some_iff.1 hg).1 (hS g _ hg)).trans hg⟩⟩⟩
theorem KOk.kept {W W' : World} {d : HN} (h : KOk W d) (hb : Below W.heap.size W W') : KOk W' d := h.chg (S := fun _ => False) (.of_below hb) (fun _ _ _ h => h)
def cellsN (ts : List HN) : List Value := ts.flatMap HN.cells
theorem cellsN_app (ts us : List HN) : cellsN (ts ++ us) = cellsN ts ++ cellsN us := by simp [cellsN]
theorem cellsN_at : ∀ (ts : List HN) (i : Nat) (d : HN), ts[i]? = some d → ∀ j v, (d.cells)[j]? = some v → (cellsN ts)[i * 6 + j]? = some v
  | d' :: ts, 0, d, h, j, v, hv => by
    simp at h
    subst h
    have hj : j < (d'.cells).length := (List.getElem?_eq_some_iff.1 hv).1
    simp only [cellsN, List.flatMap_cons]
    rw [Nat.zero_mul, Nat.zero_add, List.getElem?_append_left hj]
    exact hv
  | d' :: ts, i + 1, d, h, j, v, hv => by
    have ih := cellsN_at ts i d (by simpa using h) j v hv
    have hl : (d'.cells).length = 6 := rfl
    simp only [cellsN, List.flatMap_cons] at ih ⊢
    rw [List.getElem?_append_right (by omega), hl, show (i + 1) * 6 + j - 6 = i * 6 + j by omega]
    exact ih
structure LSt (w0 W : World) (PB i : Nat) : Prop where
  is : ∃ nv ts, ts.map HN.nd = lawN.take i ∧ ts.length = i ∧ W.heap[PB]? = some (.cells #[nv] 34 (0, 0)) ∧ W.ownsRow w0.heap.size 33 6 nv i (cellsN ts) ∧ ∀ d ∈ ts, KOk W d
  low : w0.heap.size ≤ PB
  below : Below w0.heap.size w0 W
theorem nd_of (op v : Int) (ka : Option Addr) (kc : Nat) (kids : List Int) : (nodeOf op v ka kc kids).nd = Law.mkN op v kids := rfl
theorem pb_grown {W1 W2 w' : World} {B PB i : Nat} {nv : Value} {xs : List Value} (hpb : W1.heap[PB]? = some (.cells #[nv] 34 (0, 0))) (hal : Below W1.heap.size W1 W2) (hrow : W2.ownsRow B 33 6 nv i xs) (hg : W2.grownBy w' nv.ownBlock) : w'.heap[PB]? = some (.cells #[nv] 34 (0, 0)) := by
  have h2 := block_kept hpb hal
  exact (hg.block PB (Array.getElem?_eq_some_iff.1 h2).1 (fun e => own_ne hrow h2 (by decide) e.symm)).trans h2
set_option maxRecDepth 100000 in
set_option maxHeartbeats 8000000 in
theorem add_step {w0 W : World} {PB i : Nat} (h : LSt w0 W PB i) (op : Int) (kids : List Int) (hl : lawN[i]? = some (Law.mkN op 0 kids)) (hk : kids.length ≤ 12) :
    Calls Tryz.prog 7 #[.int .i64 op, .slice (some ⟨W.heap.size, 0, none⟩) kids.length kids.length, .pointer (some ⟨PB, 0, none⟩)] (W.alloc (.cells (i64s kids).toArray 3)) (fun e W' => e = .returned (.int .i64 (i : Int)) ∧ LSt w0 W' PB (i + 1)) := by
  obtain ⟨nv, ts, hts, htl, hpb, hrow, hko⟩ := h.is
  have hi : i < 35 := by
    have := (List.getElem?_eq_some_iff.1 hl).1
    exact this
  have hal := (Below.refl W.heap.size W).alloc (Nat.le_refl _) (.cells (i64s kids).toArray 3)
  obtain ⟨W1, hW1⟩ : ∃ W1, W1 = W.alloc (.cells (i64s kids).toArray 3) := ⟨_, rfl⟩
  rw [← hW1] at hal ⊢
  have hkb : W1.heap[W.heap.size]? = some (.cells (i64s kids).toArray 3 (0, 0)) := by rw [hW1]; exact heap_alloc_new W _
  have hpb1 := block_kept hpb hal
  have hrow1 : W1.ownsRow w0.heap.size 33 6 nv i (cellsN ts) := ownsRow_chg (S := fun _ => False) hrow (.of_below hal) (fun _ _ h => h)
  have hnew : KOk W1 (nodeOf op 0 (some ⟨W.heap.size, 0, none⟩) kids.length kids) := ⟨⟨_, _, _, _, _, rfl, hk, .inr ⟨_, rfl, rfl, hkb⟩⟩⟩
  have hko1 : ∀ d ∈ ts ++ [nodeOf op 0 (some ⟨W.heap.size, 0, none⟩) kids.length kids], KOk W1 d := fun d hd => by
    rcases List.mem_append.1 hd with hd | hd
    · exact (hko d hd).kept hal
    · rw [List.mem_singleton.1 hd]; exact hnew
  have hts1 : (ts ++ [nodeOf op 0 (some ⟨W.heap.size, 0, none⟩) kids.length kids]).map HN.nd = lawN.take (i + 1) := by
    rw [List.map_append, hts, List.map_cons, List.map_nil, nd_of, List.take_add_one, hl]
    rfl
  obtain ⟨va, vc, rfl, _, _⟩ := own_value hrow1
  have hpc : W1.cell? ⟨PB, 0, none⟩ = some (.slice va i vc) := by simp [World.cell?, hpb1]
  have hb1 : Below w0.heap.size w0 W1 := h.below.trans (hal.mono h.below.size)
  have hnews : ∀ j u, ((nodeOf op 0 (some ⟨W.heap.size, 0, none⟩) kids.length kids).cells)[j]? = some u → (W1.alloc (.cells #[.int .i64 op, .int .i64 0, .slice (some ⟨W.heap.size, 0, none⟩) kids.length kids.length, .bool false, .slice none 0 0, .slice none 0 0] 33)).cell? ((⟨W1.heap.size, 0, none⟩ : Addr).add j) = some u := fun j u hu => by
    rw [Addr.add_mid]
    exact rangeAt_new W1 _ 33 j u hu
  have hal2 := (Below.refl W1.heap.size W1).alloc (Nat.le_refl _) (.cells #[.int .i64 op, .int .i64 0, .slice (some ⟨W.heap.size, 0, none⟩) kids.length kids.length, .bool false, .slice none 0 0, .slice none 0 0] 33)
  have hrow2 := ownsRow_chg (S := fun _ => False) hrow1 (.of_below hal2) (fun _ _ h => h)
  have hone : ∀ u ∈ (nodeOf op 0 (some ⟨W.heap.size, 0, none⟩) kids.length kids).cells, u.oneCell' = true := by
    intro u hu
    simp only [nodeOf, HN.cells, List.mem_cons, List.not_mem_nil, or_false] at hu
    rcases hu with rfl | rfl | rfl | rfl | rfl | rfl <;> rfl
  have HH := Lib.hid (And.intro hpb1 (And.intro hko1 (And.intro hts1 (And.intro hb1 (And.intro hal2 (And.intro h.low htl))))))
  have HR := Lib.hid (And.intro hrow2 (And.intro hnews hone))
  have hw1 : wrap64 (((i + 1 : Nat) : Int) - 1) = (i : Int) := by rw [IntWalk.wrap64_in _ (by omega)]; omega
  have hw3 : wrap64 (i : Int) = (i : Int) := IntWalk.wrap64_in _ (by omega)
  have hw2 : wrap64 ((i : Int) + 1 - 1) = (i : Int) := by rw [IntWalk.wrap64_in _ (by omega)]; omega
  have hsz : w0.heap.size ≤ (W1.alloc (.cells #[.int .i64 op, .int .i64 0, .slice (some ⟨W.heap.size, 0, none⟩) kids.length kids.length, .bool false, .slice none 0 0, .slice none 0 0] 33)).heap.size := Nat.le_trans hb1.size hal2.size
  have HSZ := Lib.hid (And.intro hsz (show i + 1 ≤ 2000000 by omega))
  generalize hkl : kids.length = kl at *
  have HKL := Lib.hid hkl
  clear h hts htl hpb hrow hko hal hW1 hkb hpb1 hrow1 hnew hko1 hts1 hb1 hnews hal2 hrow2 hone hl hk hsz hi hkl
  go_enter Tryz.func7, Tryz.ntmps7
  go_wp2_with (at_builtin; refine wpList_app_row rowT_node rfl (.tmp 6) (.tmp 10) rfl w0.heap.size (.slice va i vc) i (cellsN ts) rfl HR.out.1 ⟨W1.heap.size, 0, none⟩ 1 1 _ rfl rfl HR.out.2.1 HR.out.2.2 HSZ.out.2 HSZ.out.1 ?_; intro v' w' hown hgr hnw; have hpw := pb_grown HH.out.1 HH.out.2.2.2.2.1 HR.out.1 hgr; have hpw1 : w'.cell? ⟨PB, 0, none⟩ = some (.slice va i vc) := (by simp [World.cell?, hpw]); have hpw2 : w'.frozen? ⟨PB, 0, none⟩ = false := (by simp [World.frozen?, hpw]); obtain ⟨vb, vd, rfl, _, _⟩ := own_value hown)
  have hc2 : Chg (fun j => j = PB) w' (w'.setCell ⟨PB, 0, none⟩ (.slice vb (i + 1) vd)) := chg_setCell (S := fun j => j = PB) rfl _ _ _
  have hcg : Chg (fun j => (Value.slice va i vc).ownBlock = some j) (W1.alloc (.cells #[.int .i64 op, .int .i64 0, .slice (some ⟨W.heap.size, 0, none⟩) kl kl, .bool false, .slice none 0 0, .slice none 0 0] 33)) w' := .of_grown hgr (fun j hj => hj)
  have hlow : ∀ j, (Value.slice va i vc).ownBlock = some j → w0.heap.size ≤ j := fun j hj => (own_tag HR.out.1 hj).1
  have hfin : LSt w0 (w'.setCell ⟨PB, 0, none⟩ (.slice vb (i + 1) vd)) PB (i + 1) := by
    refine ⟨⟨.slice vb (i + 1) vd, _, HH.out.2.2.1, by rw [List.length_append, HH.out.2.2.2.2.2.2]; rfl, ?_, ?_, fun d hd => ?_⟩, HH.out.2.2.2.2.2.1, ?_⟩
    · rw [heap_setCell_same w' PB 0 _ _ _ hpw]
      rfl
    · rw [cellsN_app]
      have e : cellsN [nodeOf op 0 (some ⟨W.heap.size, 0, none⟩) kl kids] = (nodeOf op 0 (some ⟨W.heap.size, 0, none⟩) kl kids).cells := by simp [cellsN]
      rw [e]
      exact ownsRow_chg hown hc2 (fun j hj e => by subst e; exact own_ne hown hpw (by decide) hj)
    · refine (((HH.out.2.1 d hd).kept HH.out.2.2.2.2.1).chg hcg (fun g C hg e => own_ne HR.out.1 hg (by decide) e)).chg hc2 (fun g C hg e => ?_)
      subst e
      exact tag_ne10 hg hpw (by decide) rfl
    · exact ((HH.out.2.2.2.1.trans (HH.out.2.2.2.2.1.mono HH.out.2.2.2.1.size)).trans (hcg.below hlow HSZ.out.1)).trans (hc2.below (fun k hk => by rw [hk]; exact HH.out.2.2.2.2.2.1) (Nat.le_trans HSZ.out.1 hcg.size))
  have HFIN := Lib.hid hfin
  clear hfin hc2 hcg hlow hown hgr hnw
  go_ret
  exact ⟨by first | (rw [hw1]; rfl) | (rw [hw2]; rfl) | (simp [hw1, hw2, hw3]), HFIN.out⟩
end Go.Proofs.YthnklohpmcebkaaGreatDoor
