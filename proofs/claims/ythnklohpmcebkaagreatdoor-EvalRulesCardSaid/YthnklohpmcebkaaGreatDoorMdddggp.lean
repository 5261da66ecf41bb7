/- By program out of: TmTold, TmNew, TmTerms. -/
import Derived.Test.YthnklohpmcebkaaGreatDoorMmepeog
set_option linter.unusedVariables false
set_option linter.unusedSimpArgs false
namespace Go.Proofs.YthnklohpmcebkaaGreatDoor
open Go.RowKit Tm
theorem look_great (g : Ru) (x : Int) : (lookL [(1, Value.int .i64 g.b), (2, Value.int .i64 g.r)] x).getD (.int .i64 0) = .int .i64 (greatest g x) := by
  unfold greatest lookL lookL lookL
  dsimp only
  split
  · rfl
  · split <;> rfl
theorem zero_int (w : World) : (zeroValue 3).run Tryz.prog w = .ok (.int .i64 0) w := by go_simp
section
variable {w w' : World} {B R mo mg : Nat} {kv : Value} {g : Ru}
set_option maxRecDepth 100000 in
set_option maxHeartbeats 4000000 in
theorem told_any (h : RuAt w B R mo mg kv g) {n : Nd} {ka : Option Addr} {kc : Nat} {s : Bool} {a1 : Option Addr} {l1 c1 : Nat} {a2 : Option Addr} {l2 c2 : Nat} (hn : NodeAt w n ka kc s a1 l1 c1 a2 l2 c2) (so : Int) :
    Calls Tryz.prog 52 #[.pointer (some ⟨R, 0, none⟩), .agg #[.int .i64 n.op, .int .i64 n.v, .slice ka n.kids.length kc, .bool s, .slice a1 l1 c1, .slice a2 l2 c2], .int .i64 so] w (GivesV (.bool (told g n so)) w) := by
  obtain ⟨W2, hW2⟩ : ∃ W2, W2 = w.alloc (.cells #[.int .i64 n.op, .int .i64 n.v, .slice ka n.kids.length kc, .bool s, .slice a1 l1 c1, .slice a2 l2 c2] 33) := ⟨_, rfl⟩
  have hb2 : Below w.heap.size w W2 := by rw [hW2]; exact (Below.refl _ _).alloc (Nat.le_refl _) _
  have hr2 : W2.rangeAt w.heap.size 0 [.int .i64 n.op, .int .i64 n.v, .slice ka n.kids.length kc, .bool s, .slice a1 l1 c1, .slice a2 l2 c2] := by rw [hW2]; exact rangeAt_new w [.int .i64 n.op, .int .i64 n.v, .slice ka n.kids.length kc, .bool s, .slice a1 l1 c1, .slice a2 l2 c2] 33
  have hr3 : W2.rangeAt w.heap.size 3 [.bool s, .slice a1 l1 c1, .slice a2 l2 c2] := fun j u hu => by
    have := hr2 (3 + j) u (by rw [show ([.int .i64 n.op, .int .i64 n.v, .slice ka n.kids.length kc, .bool s, .slice a1 l1 c1, .slice a2 l2 c2] : List Value) = [.int .i64 n.op, .int .i64 n.v, .slice ka n.kids.length kc] ++ [.bool s, .slice a1 l1 c1, .slice a2 l2 c2] from rfl, List.getElem?_append_right (by simp)]; simpa using hu)
    simpa using this
  have e0 : W2.cell? ⟨w.heap.size, 0, none⟩ = some (.int .i64 n.op) := hr2 0 _ rfl
  have e1 : W2.cell? ⟨w.heap.size, 1, none⟩ = some (.int .i64 n.v) := hr2 1 _ rfl
  have hru := h.kept hb2
  have HX : Hid (W2.drew.cell? ⟨w.heap.size, 1, none⟩ = some (.int .i64 n.v) ∧ W2.drew.cell? ⟨R, 1, none⟩ = some (.map (some mg)) ∧ W2.drew.rangeAt w.heap.size 3 [.bool s, .slice a1 l1 c1, .slice a2 l2 c2] ∧ IM W2.drew mg [(1, .int .i64 g.b), (2, .int .i64 g.r)]) := Lib.hid ⟨e1, hru.cells.2.1, hr3, hru.great.past rfl⟩
  have HZ : Hid (∀ W, Calls Tryz.prog 88 #[.agg #[.bool s, .slice a1 l1 c1, .slice a2 l2 c2]] W (GivesV (.bool n.z) W)) := Lib.hid fun W => by rw [hn.z]; exact tmZero_any W s a1 l1 c1 a2 l2 c2
  have HRT := Lib.hid (fun h5 => hn.right h5 W2 hb2)
  have HB2 := Lib.hid (And.intro hb2 hr3)
  unfold told
  generalize n.z = z at *
  generalize n.ok = ok at *
  obtain ⟨gr, hgr⟩ : ∃ gr, greatest g so = gr := ⟨_, rfl⟩
  have HL : Hid ((lookL [(1, Value.int .i64 g.b), (2, Value.int .i64 g.r)] so).getD (.int .i64 0) = .int .i64 gr) := Lib.hid (by rw [look_great, hgr])
  rw [hgr]
  clear h hn hru hb2 hr2 hr3 hgr
  by_cases h34 : n.op = 3 ∨ n.op = 4
  · rw [if_pos h34]
    have go : ∀ b3 b4 : Bool, (n.op == 3) = b3 → (n.op == 4) = b4 → (b3 || b4) = true → Calls Tryz.prog 52 #[.pointer (some ⟨R, 0, none⟩), .agg #[.int .i64 n.op, .int .i64 n.v, .slice ka n.kids.length kc, .bool s, .slice a1 l1 c1, .slice a2 l2 c2], .int .i64 so] w (GivesV (.bool (decide (0 ≤ n.v) && decide (n.v ≤ gr) && z)) w) := by
      intro b3 b4 e3 e4 hb
      clear h34 HRT
      cases h0 : decide (0 ≤ n.v) with
      | false =>
        cases b3 <;> cases b4 <;> first | exact absurd hb (by decide) | (
          clear hb
          go_enter Tryz.func52, Tryz.ntmps52
          go_wp2_with fail
          rw [← hW2]
          clear hW2
          have e0' := e0
          have HXX := HX
          go_wp2_with fail
          refine wp_region_held_drew (S := (fun w' => w'.cell? ⟨w.heap.size, 1, none⟩ = some (.int .i64 n.v) ∧ w'.cell? ⟨R, 1, none⟩ = some (.map (some mg)) ∧ w'.rangeAt w.heap.size 3 [.bool s, .slice a1 l1 c1, .slice a2 l2 c2] ∧ IM w' mg [(1, .int .i64 g.b), (2, .int .i64 g.r)])) (by kernel_rfl) ?_ (fun hHeld => ?_)
          · exact HXX.out
          refine wpAnyH_take (i := 0) (v := ?_) (by rfl) (by kernel_rfl) (by kernel_rfl) (by kernel_rfl) (by exact fun _ _ _ h => h) (Or.inl ⟨by rfl, ?_⟩) hHeld ?_
          rotate_left 1
          · intro w' hSw
            (try dsimp only at hSw)
            go_simp
            try with_reducible rfl
          try simp only [Act.put, List.setIfInBounds_toArray, List.set_cons_zero, List.set_cons_succ, List.getElem_toArray, List.getElem_cons_zero, List.getElem_cons_succ]
          refine wpAnyH_take (i := 1) (v := .int .i64 n.v) (by rfl) (by kernel_rfl) (by kernel_rfl) (by kernel_rfl) (by exact fun _ _ _ h => h) (Or.inl ⟨by rfl, ?_⟩) hHeld ?_
          · intro w' hSw
            obtain ⟨s1, s2, s3, s4⟩ := hSw
            go_simp
          try simp only [Act.put, List.setIfInBounds_toArray, List.set_cons_zero, List.set_cons_succ, List.getElem_toArray, List.getElem_cons_zero, List.getElem_cons_succ]
          refine wpAnyH_take (i := 2) (v := ?_) (by rfl) (by kernel_rfl) (by kernel_rfl) (by kernel_rfl) (by exact fun _ _ _ h => h) (Or.inl ⟨by rfl, ?_⟩) hHeld ?_
          rotate_left 1
          · intro w' hSw
            (try dsimp only at hSw)
            go_simp
            try with_reducible rfl
          try simp only [Act.put, List.setIfInBounds_toArray, List.set_cons_zero, List.set_cons_succ, List.getElem_toArray, List.getElem_cons_zero, List.getElem_cons_succ]
          refine wpAnyH_take (i := 3) (v := ?_) (by rfl) (by kernel_rfl) (by kernel_rfl) (by kernel_rfl) (by exact fun _ _ _ h => h) (Or.inl ⟨by rfl, ?_⟩) hHeld ?_
          rotate_left 1
          · intro w' hSw
            (try dsimp only at hSw)
            go_simp
            try with_reducible rfl
          try simp only [Act.put, List.setIfInBounds_toArray, List.set_cons_zero, List.set_cons_succ, List.getElem_toArray, List.getElem_cons_zero, List.getElem_cons_succ]
          refine wpAnyH_take (i := 4) (v := undef) (by rfl) (by kernel_rfl) (by kernel_rfl) (by kernel_rfl) (by exact fun _ _ _ h => h) (Or.inr ⟨by rfl, rfl⟩) hHeld ?_
          try simp only [Act.put, List.setIfInBounds_toArray, List.set_cons_zero, List.set_cons_succ, List.getElem_toArray, List.getElem_cons_zero, List.getElem_cons_succ]
          refine wpAnyH_take (i := 5) (v := undef) (by rfl) (by kernel_rfl) (by kernel_rfl) (by kernel_rfl) (by exact fun _ _ _ h => h) (Or.inr ⟨by rfl, rfl⟩) hHeld ?_
          try simp only [Act.put, List.setIfInBounds_toArray, List.set_cons_zero, List.set_cons_succ, List.getElem_toArray, List.getElem_cons_zero, List.getElem_cons_succ]
          refine wpAnyH_take (i := 6) (v := undef) (by rfl) (by kernel_rfl) (by kernel_rfl) (by kernel_rfl) (by exact fun _ _ _ h => h) (Or.inr ⟨by rfl, rfl⟩) hHeld ?_
          try simp only [Act.put, List.setIfInBounds_toArray, List.set_cons_zero, List.set_cons_succ, List.getElem_toArray, List.getElem_cons_zero, List.getElem_cons_succ]
          refine wpAnyH_take (i := 7) (v := undef) (by rfl) (by kernel_rfl) (by kernel_rfl) (by kernel_rfl) (by exact fun _ _ _ h => h) (Or.inr ⟨by rfl, rfl⟩) hHeld ?_
          try simp only [Act.put, List.setIfInBounds_toArray, List.set_cons_zero, List.set_cons_succ, List.getElem_toArray, List.getElem_cons_zero, List.getElem_cons_succ]
          refine wpAnyH_take (i := 8) (v := undef) (by rfl) (by kernel_rfl) (by kernel_rfl) (by kernel_rfl) (by exact fun _ _ _ h => h) (Or.inr ⟨by rfl, rfl⟩) hHeld ?_
          try simp only [Act.put, List.setIfInBounds_toArray, List.set_cons_zero, List.set_cons_succ, List.getElem_toArray, List.getElem_cons_zero, List.getElem_cons_succ]
          refine wpAnyH_take (i := 9) (v := undef) (by rfl) (by kernel_rfl) (by kernel_rfl) (by kernel_rfl) (by exact fun _ _ _ h => h) (Or.inr ⟨by rfl, rfl⟩) hHeld ?_
          try simp only [Act.put, List.setIfInBounds_toArray, List.set_cons_zero, List.set_cons_succ, List.getElem_toArray, List.getElem_cons_zero, List.getElem_cons_succ]
          refine wpAnyH_take (i := 10) (v := undef) (by rfl) (by kernel_rfl) (by kernel_rfl) (by kernel_rfl) (by exact fun _ _ _ h => h) (Or.inr ⟨by rfl, rfl⟩) hHeld ?_
          try simp only [Act.put, List.setIfInBounds_toArray, List.set_cons_zero, List.set_cons_succ, List.getElem_toArray, List.getElem_cons_zero, List.getElem_cons_succ]
          refine wpAnyH_take (i := 11) (v := undef) (by rfl) (by kernel_rfl) (by kernel_rfl) (by kernel_rfl) (by exact fun _ _ _ h => h) (Or.inr ⟨by rfl, rfl⟩) hHeld ?_
          try simp only [Act.put, List.setIfInBounds_toArray, List.set_cons_zero, List.set_cons_succ, List.getElem_toArray, List.getElem_cons_zero, List.getElem_cons_succ]
          refine wpAnyH_take (i := 12) (v := undef) (by rfl) (by kernel_rfl) (by kernel_rfl) (by kernel_rfl) (by exact fun _ _ _ h => h) (Or.inr ⟨by rfl, rfl⟩) hHeld ?_
          try simp only [Act.put, List.setIfInBounds_toArray, List.set_cons_zero, List.set_cons_succ, List.getElem_toArray, List.getElem_cons_zero, List.getElem_cons_succ]
          refine wpAnyH_take (i := 13) (v := ?_) (by rfl) (by kernel_rfl) (by kernel_rfl) (by kernel_rfl) (by exact fun _ _ _ h => h) (Or.inl ⟨by rfl, ?_⟩) hHeld ?_
          rotate_left 1
          · intro w' hSw
            (try dsimp only at hSw)
            go_simp
            try with_reducible rfl
          try simp only [Act.put, List.setIfInBounds_toArray, List.set_cons_zero, List.set_cons_succ, List.getElem_toArray, List.getElem_cons_zero, List.getElem_cons_succ]
          refine wpAnyH_take (i := 14) (v := ?_) (by rfl) (by kernel_rfl) (by kernel_rfl) (by kernel_rfl) (by exact fun _ _ _ h => h) (Or.inl ⟨by rfl, ?_⟩) hHeld ?_
          rotate_left 1
          · intro w' hSw
            (try dsimp only at hSw)
            go_simp
            try with_reducible rfl
          try simp only [Act.put, List.setIfInBounds_toArray, List.set_cons_zero, List.set_cons_succ, List.getElem_toArray, List.getElem_cons_zero, List.getElem_cons_succ]
          refine wpAnyH_take (i := 15) (v := undef) (by rfl) (by kernel_rfl) (by kernel_rfl) (by kernel_rfl) (by exact fun _ _ _ h => h) (Or.inr ⟨by rfl, rfl⟩) hHeld ?_
          try simp only [Act.put, List.setIfInBounds_toArray, List.set_cons_zero, List.set_cons_succ, List.getElem_toArray, List.getElem_cons_zero, List.getElem_cons_succ]
          refine wpAnyH_take (i := 16) (v := undef) (by rfl) (by kernel_rfl) (by kernel_rfl) (by kernel_rfl) (by exact fun _ _ _ h => h) (Or.inr ⟨by rfl, rfl⟩) hHeld ?_
          try simp only [Act.put, List.setIfInBounds_toArray, List.set_cons_zero, List.set_cons_succ, List.getElem_toArray, List.getElem_cons_zero, List.getElem_cons_succ]
          refine wpAnyH_take (i := 17) (v := undef) (by rfl) (by kernel_rfl) (by kernel_rfl) (by kernel_rfl) (by exact fun _ _ _ h => h) (Or.inr ⟨by rfl, rfl⟩) hHeld ?_
          try simp only [Act.put, List.setIfInBounds_toArray, List.set_cons_zero, List.set_cons_succ, List.getElem_toArray, List.getElem_cons_zero, List.getElem_cons_succ]
          refine wpAnyH_take (i := 18) (v := ?_) (by rfl) (by kernel_rfl) (by kernel_rfl) (by kernel_rfl) (by exact fun _ _ _ h => h) (Or.inl ⟨by rfl, ?_⟩) hHeld ?_
          rotate_left 1
          · intro w' hSw
            (try dsimp only at hSw)
            go_simp
            try with_reducible rfl
          try simp only [Act.put, List.setIfInBounds_toArray, List.set_cons_zero, List.set_cons_succ, List.getElem_toArray, List.getElem_cons_zero, List.getElem_cons_succ]
          refine wpAnyH_take (i := 19) (v := ?_) (by rfl) (by kernel_rfl) (by kernel_rfl) (by kernel_rfl) (by exact fun _ _ _ h => h) (Or.inl ⟨by rfl, ?_⟩) hHeld ?_
          rotate_left 1
          · intro w' hSw
            (try dsimp only at hSw)
            go_simp
            try with_reducible rfl
          try simp only [Act.put, List.setIfInBounds_toArray, List.set_cons_zero, List.set_cons_succ, List.getElem_toArray, List.getElem_cons_zero, List.getElem_cons_succ]
          refine wpAnyH_done (by kernel_rfl) ?_ _
          clear hHeld
          go_wp2_with fail
          go_ret
          exact GivesV.mk' rfl HB2.out.1.drew
          )
      | true =>
        cases h1 : decide (n.v ≤ gr) with
        | false =>
          cases b3 <;> cases b4 <;> first | exact absurd hb (by decide) | (
            clear hb
            go_enter Tryz.func52, Tryz.ntmps52
            go_wp2_with fail
            rw [← hW2]
            clear hW2
            have e0' := e0
            have HXX := HX
            go_wp2_with fail
            refine wp_region_held_drew (S := (fun w' => w'.cell? ⟨w.heap.size, 1, none⟩ = some (.int .i64 n.v) ∧ w'.cell? ⟨R, 1, none⟩ = some (.map (some mg)) ∧ w'.rangeAt w.heap.size 3 [.bool s, .slice a1 l1 c1, .slice a2 l2 c2] ∧ IM w' mg [(1, .int .i64 g.b), (2, .int .i64 g.r)])) (by kernel_rfl) ?_ (fun hHeld => ?_)
            · exact HXX.out
            refine wpAnyH_take (i := 0) (v := ?_) (by rfl) (by kernel_rfl) (by kernel_rfl) (by kernel_rfl) (by exact fun _ _ _ h => h) (Or.inl ⟨by rfl, ?_⟩) hHeld ?_
            rotate_left 1
            · intro w' hSw
              (try dsimp only at hSw)
              go_simp
              try with_reducible rfl
            try simp only [Act.put, List.setIfInBounds_toArray, List.set_cons_zero, List.set_cons_succ, List.getElem_toArray, List.getElem_cons_zero, List.getElem_cons_succ]
            refine wpAnyH_take (i := 1) (v := .int .i64 n.v) (by rfl) (by kernel_rfl) (by kernel_rfl) (by kernel_rfl) (by exact fun _ _ _ h => h) (Or.inl ⟨by rfl, ?_⟩) hHeld ?_
            · intro w' hSw
              obtain ⟨s1, s2, s3, s4⟩ := hSw
              go_simp
            try simp only [Act.put, List.setIfInBounds_toArray, List.set_cons_zero, List.set_cons_succ, List.getElem_toArray, List.getElem_cons_zero, List.getElem_cons_succ]
            refine wpAnyH_take (i := 2) (v := ?_) (by rfl) (by kernel_rfl) (by kernel_rfl) (by kernel_rfl) (by exact fun _ _ _ h => h) (Or.inl ⟨by rfl, ?_⟩) hHeld ?_
            rotate_left 1
            · intro w' hSw
              (try dsimp only at hSw)
              go_simp
              try with_reducible rfl
            try simp only [Act.put, List.setIfInBounds_toArray, List.set_cons_zero, List.set_cons_succ, List.getElem_toArray, List.getElem_cons_zero, List.getElem_cons_succ]
            refine wpAnyH_take (i := 3) (v := ?_) (by rfl) (by kernel_rfl) (by kernel_rfl) (by kernel_rfl) (by exact fun _ _ _ h => h) (Or.inl ⟨by rfl, ?_⟩) hHeld ?_
            rotate_left 1
            · intro w' hSw
              (try dsimp only at hSw)
              go_simp
              try with_reducible rfl
            try simp only [Act.put, List.setIfInBounds_toArray, List.set_cons_zero, List.set_cons_succ, List.getElem_toArray, List.getElem_cons_zero, List.getElem_cons_succ]
            refine wpAnyH_take (i := 4) (v := ?_) (by rfl) (by kernel_rfl) (by kernel_rfl) (by kernel_rfl) (by exact fun _ _ _ h => h) (Or.inl ⟨by rfl, ?_⟩) hHeld ?_
            rotate_left 1
            · intro w' hSw
              (try dsimp only at hSw)
              go_simp
              try with_reducible rfl
            try simp only [Act.put, List.setIfInBounds_toArray, List.set_cons_zero, List.set_cons_succ, List.getElem_toArray, List.getElem_cons_zero, List.getElem_cons_succ]
            refine wpAnyH_take (i := 5) (v := .int .i64 n.v) (by rfl) (by kernel_rfl) (by kernel_rfl) (by kernel_rfl) (by exact fun _ _ _ h => h) (Or.inl ⟨by rfl, ?_⟩) hHeld ?_
            · intro w' hSw
              obtain ⟨s1, s2, s3, s4⟩ := hSw
              go_simp
            try simp only [Act.put, List.setIfInBounds_toArray, List.set_cons_zero, List.set_cons_succ, List.getElem_toArray, List.getElem_cons_zero, List.getElem_cons_succ]
            refine wpAnyH_take (i := 6) (v := ?_) (by rfl) (by kernel_rfl) (by kernel_rfl) (by kernel_rfl) (by exact fun _ _ _ h => h) (Or.inl ⟨by rfl, ?_⟩) hHeld ?_
            rotate_left 1
            · intro w' hSw
              (try dsimp only at hSw)
              go_simp
              try with_reducible rfl
            try simp only [Act.put, List.setIfInBounds_toArray, List.set_cons_zero, List.set_cons_succ, List.getElem_toArray, List.getElem_cons_zero, List.getElem_cons_succ]
            refine wpAnyH_take (i := 7) (v := ?_) (by rfl) (by kernel_rfl) (by kernel_rfl) (by kernel_rfl) (by exact fun _ _ _ h => h) (Or.inl ⟨by rfl, ?_⟩) hHeld ?_
            rotate_left 1
            · intro w' hSw
              (try dsimp only at hSw)
              go_simp
              try with_reducible rfl
            try simp only [Act.put, List.setIfInBounds_toArray, List.set_cons_zero, List.set_cons_succ, List.getElem_toArray, List.getElem_cons_zero, List.getElem_cons_succ]
            refine wpAnyH_take (i := 8) (v := ?_) (by rfl) (by kernel_rfl) (by kernel_rfl) (by kernel_rfl) (by exact fun _ _ _ h => h) (Or.inl ⟨by rfl, ?_⟩) hHeld ?_
            rotate_left 1
            · intro w' hSw
              (try dsimp only at hSw)
              go_simp
              try with_reducible rfl
            try simp only [Act.put, List.setIfInBounds_toArray, List.set_cons_zero, List.set_cons_succ, List.getElem_toArray, List.getElem_cons_zero, List.getElem_cons_succ]
            refine wpAnyH_take (i := 9) (v := .map (some mg)) (by rfl) (by kernel_rfl) (by kernel_rfl) (by kernel_rfl) (by exact fun _ _ _ h => h) (Or.inl ⟨by rfl, ?_⟩) hHeld ?_
            · intro w' hSw
              obtain ⟨s1, s2, s3, s4⟩ := hSw
              go_simp
            try simp only [Act.put, List.setIfInBounds_toArray, List.set_cons_zero, List.set_cons_succ, List.getElem_toArray, List.getElem_cons_zero, List.getElem_cons_succ]
            refine wpAnyH_take (i := 10) (v := ?_) (by rfl) (by kernel_rfl) (by kernel_rfl) (by kernel_rfl) (by exact fun _ _ _ h => h) (Or.inl ⟨by rfl, ?_⟩) hHeld ?_
            rotate_left 1
            · intro w' hSw
              (try dsimp only at hSw)
              go_simp
              try with_reducible rfl
            try simp only [Act.put, List.setIfInBounds_toArray, List.set_cons_zero, List.set_cons_succ, List.getElem_toArray, List.getElem_cons_zero, List.getElem_cons_succ]
            refine wpAnyH_take (i := 11) (v := .int .i64 gr) (by rfl) (by kernel_rfl) (by kernel_rfl) (by kernel_rfl) (by exact fun _ _ _ h => h) (Or.inl ⟨by rfl, ?_⟩) hHeld ?_
            · intro w' hSw
              exact run_look_op (.tmp 21) (.tmp 22) rfl Tryz.underlying108 Tryz.underlying3 (.int .i64 0) (zero_int _) mg rfl so rfl _ hSw.2.2.2 _ HL.out
            try simp only [Act.put, List.setIfInBounds_toArray, List.set_cons_zero, List.set_cons_succ, List.getElem_toArray, List.getElem_cons_zero, List.getElem_cons_succ]
            refine wpAnyH_take (i := 12) (v := ?_) (by rfl) (by kernel_rfl) (by kernel_rfl) (by kernel_rfl) (by exact fun _ _ _ h => h) (Or.inl ⟨by rfl, ?_⟩) hHeld ?_
            rotate_left 1
            · intro w' hSw
              (try dsimp only at hSw)
              go_simp
              try with_reducible rfl
            try simp only [Act.put, List.setIfInBounds_toArray, List.set_cons_zero, List.set_cons_succ, List.getElem_toArray, List.getElem_cons_zero, List.getElem_cons_succ]
            refine wpAnyH_take (i := 13) (v := ?_) (by rfl) (by kernel_rfl) (by kernel_rfl) (by kernel_rfl) (by exact fun _ _ _ h => h) (Or.inl ⟨by rfl, ?_⟩) hHeld ?_
            rotate_left 1
            · intro w' hSw
              (try dsimp only at hSw)
              go_simp
              try with_reducible rfl
            try simp only [Act.put, List.setIfInBounds_toArray, List.set_cons_zero, List.set_cons_succ, List.getElem_toArray, List.getElem_cons_zero, List.getElem_cons_succ]
            refine wpAnyH_take (i := 14) (v := ?_) (by rfl) (by kernel_rfl) (by kernel_rfl) (by kernel_rfl) (by exact fun _ _ _ h => h) (Or.inl ⟨by rfl, ?_⟩) hHeld ?_
            rotate_left 1
            · intro w' hSw
              (try dsimp only at hSw)
              go_simp
              try with_reducible rfl
            try simp only [Act.put, List.setIfInBounds_toArray, List.set_cons_zero, List.set_cons_succ, List.getElem_toArray, List.getElem_cons_zero, List.getElem_cons_succ]
            refine wpAnyH_take (i := 15) (v := undef) (by rfl) (by kernel_rfl) (by kernel_rfl) (by kernel_rfl) (by exact fun _ _ _ h => h) (Or.inr ⟨by rfl, rfl⟩) hHeld ?_
            try simp only [Act.put, List.setIfInBounds_toArray, List.set_cons_zero, List.set_cons_succ, List.getElem_toArray, List.getElem_cons_zero, List.getElem_cons_succ]
            refine wpAnyH_take (i := 16) (v := undef) (by rfl) (by kernel_rfl) (by kernel_rfl) (by kernel_rfl) (by exact fun _ _ _ h => h) (Or.inr ⟨by rfl, rfl⟩) hHeld ?_
            try simp only [Act.put, List.setIfInBounds_toArray, List.set_cons_zero, List.set_cons_succ, List.getElem_toArray, List.getElem_cons_zero, List.getElem_cons_succ]
            refine wpAnyH_take (i := 17) (v := undef) (by rfl) (by kernel_rfl) (by kernel_rfl) (by kernel_rfl) (by exact fun _ _ _ h => h) (Or.inr ⟨by rfl, rfl⟩) hHeld ?_
            try simp only [Act.put, List.setIfInBounds_toArray, List.set_cons_zero, List.set_cons_succ, List.getElem_toArray, List.getElem_cons_zero, List.getElem_cons_succ]
            refine wpAnyH_take (i := 18) (v := ?_) (by rfl) (by kernel_rfl) (by kernel_rfl) (by kernel_rfl) (by exact fun _ _ _ h => h) (Or.inl ⟨by rfl, ?_⟩) hHeld ?_
            rotate_left 1
            · intro w' hSw
              (try dsimp only at hSw)
              go_simp
              try with_reducible rfl
            try simp only [Act.put, List.setIfInBounds_toArray, List.set_cons_zero, List.set_cons_succ, List.getElem_toArray, List.getElem_cons_zero, List.getElem_cons_succ]
            refine wpAnyH_take (i := 19) (v := ?_) (by rfl) (by kernel_rfl) (by kernel_rfl) (by kernel_rfl) (by exact fun _ _ _ h => h) (Or.inl ⟨by rfl, ?_⟩) hHeld ?_
            rotate_left 1
            · intro w' hSw
              (try dsimp only at hSw)
              go_simp
              try with_reducible rfl
            try simp only [Act.put, List.setIfInBounds_toArray, List.set_cons_zero, List.set_cons_succ, List.getElem_toArray, List.getElem_cons_zero, List.getElem_cons_succ]
            refine wpAnyH_done (by kernel_rfl) ?_ _
            clear hHeld
            go_wp2_with fail
            go_ret
            exact GivesV.mk' rfl HB2.out.1.drew
            )
        | true =>
          cases b3 <;> cases b4 <;> first | exact absurd hb (by decide) | (
            clear hb
            go_enter Tryz.func52, Tryz.ntmps52
            go_wp2_with fail
            rw [← hW2]
            clear hW2
            have e0' := e0
            have HXX := HX
            go_wp2_with fail
            refine wp_region_held_drew (S := (fun w' => w'.cell? ⟨w.heap.size, 1, none⟩ = some (.int .i64 n.v) ∧ w'.cell? ⟨R, 1, none⟩ = some (.map (some mg)) ∧ w'.rangeAt w.heap.size 3 [.bool s, .slice a1 l1 c1, .slice a2 l2 c2] ∧ IM w' mg [(1, .int .i64 g.b), (2, .int .i64 g.r)])) (by kernel_rfl) ?_ (fun hHeld => ?_)
            · exact HXX.out
            refine wpAnyH_take (i := 0) (v := ?_) (by rfl) (by kernel_rfl) (by kernel_rfl) (by kernel_rfl) (by exact fun _ _ _ h => h) (Or.inl ⟨by rfl, ?_⟩) hHeld ?_
            rotate_left 1
            · intro w' hSw
              (try dsimp only at hSw)
              go_simp
              try with_reducible rfl
            try simp only [Act.put, List.setIfInBounds_toArray, List.set_cons_zero, List.set_cons_succ, List.getElem_toArray, List.getElem_cons_zero, List.getElem_cons_succ]
            refine wpAnyH_take (i := 1) (v := .int .i64 n.v) (by rfl) (by kernel_rfl) (by kernel_rfl) (by kernel_rfl) (by exact fun _ _ _ h => h) (Or.inl ⟨by rfl, ?_⟩) hHeld ?_
            · intro w' hSw
              obtain ⟨s1, s2, s3, s4⟩ := hSw
              go_simp
            try simp only [Act.put, List.setIfInBounds_toArray, List.set_cons_zero, List.set_cons_succ, List.getElem_toArray, List.getElem_cons_zero, List.getElem_cons_succ]
            refine wpAnyH_take (i := 2) (v := ?_) (by rfl) (by kernel_rfl) (by kernel_rfl) (by kernel_rfl) (by exact fun _ _ _ h => h) (Or.inl ⟨by rfl, ?_⟩) hHeld ?_
            rotate_left 1
            · intro w' hSw
              (try dsimp only at hSw)
              go_simp
              try with_reducible rfl
            try simp only [Act.put, List.setIfInBounds_toArray, List.set_cons_zero, List.set_cons_succ, List.getElem_toArray, List.getElem_cons_zero, List.getElem_cons_succ]
            refine wpAnyH_take (i := 3) (v := ?_) (by rfl) (by kernel_rfl) (by kernel_rfl) (by kernel_rfl) (by exact fun _ _ _ h => h) (Or.inl ⟨by rfl, ?_⟩) hHeld ?_
            rotate_left 1
            · intro w' hSw
              (try dsimp only at hSw)
              go_simp
              try with_reducible rfl
            try simp only [Act.put, List.setIfInBounds_toArray, List.set_cons_zero, List.set_cons_succ, List.getElem_toArray, List.getElem_cons_zero, List.getElem_cons_succ]
            refine wpAnyH_take (i := 4) (v := ?_) (by rfl) (by kernel_rfl) (by kernel_rfl) (by kernel_rfl) (by exact fun _ _ _ h => h) (Or.inl ⟨by rfl, ?_⟩) hHeld ?_
            rotate_left 1
            · intro w' hSw
              (try dsimp only at hSw)
              go_simp
              try with_reducible rfl
            try simp only [Act.put, List.setIfInBounds_toArray, List.set_cons_zero, List.set_cons_succ, List.getElem_toArray, List.getElem_cons_zero, List.getElem_cons_succ]
            refine wpAnyH_take (i := 5) (v := .int .i64 n.v) (by rfl) (by kernel_rfl) (by kernel_rfl) (by kernel_rfl) (by exact fun _ _ _ h => h) (Or.inl ⟨by rfl, ?_⟩) hHeld ?_
            · intro w' hSw
              obtain ⟨s1, s2, s3, s4⟩ := hSw
              go_simp
            try simp only [Act.put, List.setIfInBounds_toArray, List.set_cons_zero, List.set_cons_succ, List.getElem_toArray, List.getElem_cons_zero, List.getElem_cons_succ]
            refine wpAnyH_take (i := 6) (v := ?_) (by rfl) (by kernel_rfl) (by kernel_rfl) (by kernel_rfl) (by exact fun _ _ _ h => h) (Or.inl ⟨by rfl, ?_⟩) hHeld ?_
            rotate_left 1
            · intro w' hSw
              (try dsimp only at hSw)
              go_simp
              try with_reducible rfl
            try simp only [Act.put, List.setIfInBounds_toArray, List.set_cons_zero, List.set_cons_succ, List.getElem_toArray, List.getElem_cons_zero, List.getElem_cons_succ]
            refine wpAnyH_take (i := 7) (v := ?_) (by rfl) (by kernel_rfl) (by kernel_rfl) (by kernel_rfl) (by exact fun _ _ _ h => h) (Or.inl ⟨by rfl, ?_⟩) hHeld ?_
            rotate_left 1
            · intro w' hSw
              (try dsimp only at hSw)
              go_simp
              try with_reducible rfl
            try simp only [Act.put, List.setIfInBounds_toArray, List.set_cons_zero, List.set_cons_succ, List.getElem_toArray, List.getElem_cons_zero, List.getElem_cons_succ]
            refine wpAnyH_take (i := 8) (v := ?_) (by rfl) (by kernel_rfl) (by kernel_rfl) (by kernel_rfl) (by exact fun _ _ _ h => h) (Or.inl ⟨by rfl, ?_⟩) hHeld ?_
            rotate_left 1
            · intro w' hSw
              (try dsimp only at hSw)
              go_simp
              try with_reducible rfl
            try simp only [Act.put, List.setIfInBounds_toArray, List.set_cons_zero, List.set_cons_succ, List.getElem_toArray, List.getElem_cons_zero, List.getElem_cons_succ]
            refine wpAnyH_take (i := 9) (v := .map (some mg)) (by rfl) (by kernel_rfl) (by kernel_rfl) (by kernel_rfl) (by exact fun _ _ _ h => h) (Or.inl ⟨by rfl, ?_⟩) hHeld ?_
            · intro w' hSw
              obtain ⟨s1, s2, s3, s4⟩ := hSw
              go_simp
            try simp only [Act.put, List.setIfInBounds_toArray, List.set_cons_zero, List.set_cons_succ, List.getElem_toArray, List.getElem_cons_zero, List.getElem_cons_succ]
            refine wpAnyH_take (i := 10) (v := ?_) (by rfl) (by kernel_rfl) (by kernel_rfl) (by kernel_rfl) (by exact fun _ _ _ h => h) (Or.inl ⟨by rfl, ?_⟩) hHeld ?_
            rotate_left 1
            · intro w' hSw
              (try dsimp only at hSw)
              go_simp
              try with_reducible rfl
            try simp only [Act.put, List.setIfInBounds_toArray, List.set_cons_zero, List.set_cons_succ, List.getElem_toArray, List.getElem_cons_zero, List.getElem_cons_succ]
            refine wpAnyH_take (i := 11) (v := .int .i64 gr) (by rfl) (by kernel_rfl) (by kernel_rfl) (by kernel_rfl) (by exact fun _ _ _ h => h) (Or.inl ⟨by rfl, ?_⟩) hHeld ?_
            · intro w' hSw
              exact run_look_op (.tmp 21) (.tmp 22) rfl Tryz.underlying108 Tryz.underlying3 (.int .i64 0) (zero_int _) mg rfl so rfl _ hSw.2.2.2 _ HL.out
            try simp only [Act.put, List.setIfInBounds_toArray, List.set_cons_zero, List.set_cons_succ, List.getElem_toArray, List.getElem_cons_zero, List.getElem_cons_succ]
            refine wpAnyH_take (i := 12) (v := ?_) (by rfl) (by kernel_rfl) (by kernel_rfl) (by kernel_rfl) (by exact fun _ _ _ h => h) (Or.inl ⟨by rfl, ?_⟩) hHeld ?_
            rotate_left 1
            · intro w' hSw
              (try dsimp only at hSw)
              go_simp
              try with_reducible rfl
            try simp only [Act.put, List.setIfInBounds_toArray, List.set_cons_zero, List.set_cons_succ, List.getElem_toArray, List.getElem_cons_zero, List.getElem_cons_succ]
            refine wpAnyH_take (i := 13) (v := ?_) (by rfl) (by kernel_rfl) (by kernel_rfl) (by kernel_rfl) (by exact fun _ _ _ h => h) (Or.inl ⟨by rfl, ?_⟩) hHeld ?_
            rotate_left 1
            · intro w' hSw
              (try dsimp only at hSw)
              go_simp
              try with_reducible rfl
            try simp only [Act.put, List.setIfInBounds_toArray, List.set_cons_zero, List.set_cons_succ, List.getElem_toArray, List.getElem_cons_zero, List.getElem_cons_succ]
            refine wpAnyH_take (i := 14) (v := ?_) (by rfl) (by kernel_rfl) (by kernel_rfl) (by kernel_rfl) (by exact fun _ _ _ h => h) (Or.inl ⟨by rfl, ?_⟩) hHeld ?_
            rotate_left 1
            · intro w' hSw
              (try dsimp only at hSw)
              go_simp
              try with_reducible rfl
            try simp only [Act.put, List.setIfInBounds_toArray, List.set_cons_zero, List.set_cons_succ, List.getElem_toArray, List.getElem_cons_zero, List.getElem_cons_succ]
            refine wpAnyH_take (i := 15) (v := ?_) (by rfl) (by kernel_rfl) (by kernel_rfl) (by kernel_rfl) (by exact fun _ _ _ h => h) (Or.inl ⟨by rfl, ?_⟩) hHeld ?_
            rotate_left 1
            · intro w' hSw
              (try dsimp only at hSw)
              go_simp
              try with_reducible rfl
            try simp only [Act.put, List.setIfInBounds_toArray, List.set_cons_zero, List.set_cons_succ, List.getElem_toArray, List.getElem_cons_zero, List.getElem_cons_succ]
            refine wpAnyH_take (i := 16) (v := .agg #[.bool s, .slice a1 l1 c1, .slice a2 l2 c2]) (by rfl) (by kernel_rfl) (by kernel_rfl) (by kernel_rfl) (by exact fun _ _ _ h => h) (Or.inl ⟨by rfl, ?_⟩) hHeld ?_
            · intro w' hSw
              exact run_load_op 27 (.tmp 27) rfl w.heap.size 3 rfl [.bool s, .slice a1 l1 c1, .slice a2 l2 c2] _ hSw.2.2.1 Tryz.underlying27 rfl (by rw [size_ratio]; rfl)
            try simp only [Act.put, List.setIfInBounds_toArray, List.set_cons_zero, List.set_cons_succ, List.getElem_toArray, List.getElem_cons_zero, List.getElem_cons_succ]
            refine wpAnyH_ready (rs := [17]) (by kernel_rfl) (by simp) ?_
            refine AllReadyH.cons (by rfl) (fun K hK => ?_) AllReadyH.nil
            go_simp
            refine (HZ.out _).mono ?_
            rintro e w5 ⟨rfl, hb5⟩
            have HB5 := Lib.hid (HB2.out.1.drew.trans (hb5.mono HB2.out.1.drew.size))
            refine hK.out _ _ ?_ (fun hHeld => ?_)
            · exact ⟨(hb5.cell (p := ⟨w.heap.size, 1, none⟩) (World.block_lt_of_cell? _ _ HXX.out.1)).trans HXX.out.1, (hb5.cell (p := ⟨R, 1, none⟩) (World.block_lt_of_cell? _ _ HXX.out.2.1)).trans HXX.out.2.1, rangeAt_kept HXX.out.2.2.1 hb5 (World.block_lt_of_cell? _ _ HXX.out.1), HXX.out.2.2.2.past (hb5.block mg HXX.out.2.2.2.lt)⟩
            clear hK K
            try simp only [Act.put, List.setIfInBounds_toArray, List.set_cons_zero, List.set_cons_succ, List.getElem_toArray, List.getElem_cons_zero, List.getElem_cons_succ]
            refine wpAnyH_take (i := 18) (v := ?_) (by rfl) (by kernel_rfl) (by kernel_rfl) (by kernel_rfl) (by exact fun _ _ _ h => h) (Or.inl ⟨by rfl, ?_⟩) hHeld ?_
            rotate_left 1
            · intro w' hSw
              (try dsimp only at hSw)
              go_simp
              try with_reducible rfl
            try simp only [Act.put, List.setIfInBounds_toArray, List.set_cons_zero, List.set_cons_succ, List.getElem_toArray, List.getElem_cons_zero, List.getElem_cons_succ]
            refine wpAnyH_take (i := 19) (v := ?_) (by rfl) (by kernel_rfl) (by kernel_rfl) (by kernel_rfl) (by exact fun _ _ _ h => h) (Or.inl ⟨by rfl, ?_⟩) hHeld ?_
            rotate_left 1
            · intro w' hSw
              (try dsimp only at hSw)
              go_simp
              try with_reducible rfl
            try simp only [Act.put, List.setIfInBounds_toArray, List.set_cons_zero, List.set_cons_succ, List.getElem_toArray, List.getElem_cons_zero, List.getElem_cons_succ]
            refine wpAnyH_done (by kernel_rfl) ?_ _
            clear hHeld hb5
            go_wp2_with fail
            go_ret
            exact GivesV.mk' rfl HB5.out
            )
    exact go _ _ rfl rfl (by rcases h34 with h | h <;> simp [h])
  · rw [if_neg h34]
    have e3 : (n.op == 3) = false := by rw [beq_eq_false_iff_ne]; intro h; exact h34 (by simp [h])
    have e4 : (n.op == 4) = false := by rw [beq_eq_false_iff_ne]; intro h; exact h34 (by simp [h])
    by_cases h5 : n.op = 5
    · rw [if_pos h5]
      have e5 : (n.op == 5) = true := by simpa using h5
      have HRT' := Lib.hid (HRT.out h5)
      clear HRT h5 h34 HZ HL
      by_cases h0 : n.v = 0
      · have z0 : (n.v == 0) = true := by simpa using h0
        rw [decide_eq_true h0]
        clear h0
        go_enter Tryz.func52, Tryz.ntmps52
        go_wp2_with fail
        rw [← hW2]
        clear hW2
        go_wp2_with (refine wpList_val (.agg #[.bool s, .slice a1 l1 c1, .slice a2 l2 c2]) (run_load_op 27 (.tmp 37) (by with_reducible rfl) w.heap.size 3 (by rfl) [.bool s, .slice a1 l1 c1, .slice a2 l2 c2] _ HB2.out.2 Tryz.underlying27 rfl (by rw [size_ratio]; rfl)) (by rfl) ?_)
        refine HRT'.out.mono ?_
        rintro e w' ⟨rfl, hb⟩
        have HB := Lib.hid (HB2.out.1.trans (hb.mono HB2.out.1.size))
        clear hb
        go_wp2_with fail
        go_ret
        exact GivesV.mk' rfl HB.out
      · have z0 : (n.v == 0) = false := by simpa using h0
        rw [decide_eq_false h0]
        clear h0
        go_enter Tryz.func52, Tryz.ntmps52
        go_wp2_with fail
        rw [← hW2]
        clear hW2
        go_wp2_with fail
        go_ret
        exact GivesV.mk' rfl HB2.out.1
    · rw [if_neg h5]
      have e5 : (n.op == 5) = false := by simpa using h5
      clear HRT h5 h34 HL
      by_cases h0 : n.v = 0
      · have z0 : (n.v == 0) = true := by simpa using h0
        rw [decide_eq_true h0]
        clear h0
        go_enter Tryz.func52, Tryz.ntmps52
        go_wp2_with fail
        rw [← hW2]
        clear hW2
        go_wp2_with (refine wpList_val (.agg #[.bool s, .slice a1 l1 c1, .slice a2 l2 c2]) (run_load_op 27 (.tmp 45) (by with_reducible rfl) w.heap.size 3 (by rfl) [.bool s, .slice a1 l1 c1, .slice a2 l2 c2] _ HB2.out.2 Tryz.underlying27 rfl (by rw [size_ratio]; rfl)) (by rfl) ?_)
        refine (HZ.out _).mono ?_
        rintro e w' ⟨rfl, hb⟩
        have HB := Lib.hid (HB2.out.1.trans (hb.mono HB2.out.1.size))
        clear hb
        go_wp2_with fail
        go_ret
        exact GivesV.mk' rfl HB.out
      · have z0 : (n.v == 0) = false := by simpa using h0
        rw [decide_eq_false h0]
        clear h0
        go_enter Tryz.func52, Tryz.ntmps52
        go_wp2_with fail
        rw [← hW2]
        clear hW2
        go_wp2_with fail
        go_ret
        exact GivesV.mk' rfl HB2.out.1
end
end Go.Proofs.YthnklohpmcebkaaGreatDoor

set_option linter.unusedVariables false
set_option linter.unusedSimpArgs false
namespace Go.Proofs.YthnklohpmcebkaaGreatDoor
open Go.RowKit Tm
structure MpAt (w0 w : World) (M : List (Int × Value)) : Prop where
  im : IM w w0.heap.size M
  below : Below w0.heap.size w0 w
theorem MpAt.made (w : World) : MpAt w (w.alloc (.map #[] 0)) [] := ⟨IM.made w, (Below.refl _ _).alloc (Nat.le_refl _) _⟩
theorem MpAt.put {w0 w w' : World} {M M' : List (Int × Value)} (h : MpAt w0 w M) (hc : Chg (fun j => j = w0.heap.size) w w') (hi : IM w' w0.heap.size M') : MpAt w0 w' M' :=
  ⟨hi, h.below.trans (hc.below (fun k hk => by rw [hk]; exact Nat.le_refl _) h.below.size)⟩
section
variable {P : Program} {w : World} {t k e : TypeId}
theorem wpList_mp {ops : Array Oper} {Q : Exit → Act → World → Prop} {a : Act} {rest : List Oper} {o : Oper} (hg : o.guard = none) (m x v : Operand) (ho : o.op = .insert t m x v)
    (ht : P.underlying t = some (.map k e)) (hk : P.underlying k = some (.int .i64)) (w0 : World) (hm : a.eval m = .map (some w0.heap.size)) (y : Int) (hx : a.eval x = .int .i64 y) (u : Value) (hv : a.eval v = u) (M : List (Int × Value)) (hs : Hid (MpAt w0 w M))
    (h : ∀ w', Hid (MpAt w0 w' (updI M y u)) → wpList P ops Q rest (a.put o.dst undef) w') : wpList P ops Q (o :: rest) a w :=
  wpList_upd hg m x v (.inr ho) ht hk _ hm y hx u hv M hs.out.im fun w' hi hc => h w' (Lib.hid (hs.out.put hc hi))
end
set_option maxRecDepth 100000 in
set_option maxHeartbeats 4000000 in
theorem operators_any (w : World) : Calls Tryz.prog 51 #[] w (fun e w' => e = .returned (.map (some w.heap.size)) ∧ MpAt w w' opsV) := by
  have hmm := @run_makeMap Tryz.prog
  have h0 := Lib.hid (MpAt.made w)
  go_enter Tryz.func51, Tryz.ntmps51
  go_wp2_with (refine wpList_mp rfl (.tmp 1) _ _ (by with_reducible rfl) Tryz.underlying106 Tryz.underlying3 w (by rfl) _ (by rfl) _ (by rfl) _ (by assumption) ?_; intro w' hM')
  have he : ∀ M, M = opsV → MpAt w w' M → MpAt w w' opsV := fun M e h => e ▸ h
  go_ret
  exact ⟨rfl, he _ (by kernel_rfl) hM'.out⟩
structure NewRu (w w' : World) (g : Ru) (R mo mg : Nat) : Prop where
  ru : RuAt w' w.heap.size R mo mg (.slice none 0 0) g
  below : Below w.heap.size w w'
def startRu (b r : Int) : Ru := ⟨(if b < 0 then 0 else b) - 1, (if r < 0 then 0 else r) - 1, []⟩
def GivesRu (b r : Int) (w : World) (e : Ending) (w' : World) : Prop := ∃ R mo mg, e = .returned (.pointer (some ⟨R, 0, none⟩)) ∧ NewRu w w' (startRu b r) R mo mg
theorem new_fin {w w1 w' : World} {x y : Int} (h1 : MpAt w w1 opsV) (h2 : MpAt w1 w' [(1, .int .i64 x), (2, .int .i64 y)]) :
    NewRu w (w'.alloc (.cells #[.map (some w.heap.size), .map (some w1.heap.size), .slice none 0 0] 111)) ⟨x, y, []⟩ w'.heap.size w.heap.size w1.heap.size := by
  have s1 := h1.im.lt
  have s2 := h2.im.lt
  have b1 : Below w'.heap.size w' (w'.alloc (.cells #[.map (some w.heap.size), .map (some w1.heap.size), .slice none 0 0] 111)) := (Below.refl _ _).alloc (Nat.le_refl _) _
  have i1 : IM w' w.heap.size opsV := h1.im.past (h2.below.block _ s1)
  refine ⟨⟨heap_alloc_new w' _, i1.past (b1.block _ i1.lt), h2.im.past (b1.block _ s2), World.ownsRow_nil _ _ _ _, by omega, Nat.le_refl _, by omega, by omega⟩, ?_⟩
  exact h1.below.trans ((h2.below.trans (b1.mono (by omega))).mono (by omega))
set_option maxRecDepth 100000 in
set_option maxHeartbeats 4000000 in
theorem newRules_any (w : World) (b r : Int) (hb : b ≤ 9223372036854775807) (hr : r ≤ 9223372036854775807) : Calls Tryz.prog 31 #[.int .i64 b, .int .i64 r] w (GivesRu b r w) := by
  have hmm := @run_makeMap Tryz.prog
  have HO := Lib.hid (operators_any w)
  go_enter Tryz.func31, Tryz.ntmps31
  go_wp2_with fail
  refine HO.out.mono ?_
  rintro e w1 ⟨rfl, h1⟩
  have H1 := Lib.hid h1
  have h0 := Lib.hid (MpAt.made w1)
  clear h1
  go_wp2_with (refine wpList_mp rfl (.tmp 6) _ _ (by with_reducible rfl) Tryz.underlying108 Tryz.underlying3 w1 (by rfl) _ (by rfl) _ (by rfl) _ (by assumption) ?_; intro w' hM')
  all_goals
    go_ret
    exact ⟨_, _, _, rfl, new_fin H1.out hM'.out⟩
end Go.Proofs.YthnklohpmcebkaaGreatDoor

set_option linter.unusedVariables false
set_option linter.unusedSimpArgs false
namespace Go.Proofs.YthnklohpmcebkaaGreatDoor
open Go.RowKit Tm
section
variable {P : Program} {w : World} {t k e : TypeId} {b : Nat} {M : List (Int × Value)}
end
structure TmAt (w : World) (B T R mo mg : Nat) (kv nv : Value) (g : Ru) : Prop where
  ru : RuAt w B R mo mg kv g
  head : w.heap[T]? = some (.cells #[.pointer (some ⟨R, 0, none⟩), nv] 86 (0, 0))
  row : ∃ xs, w.ownsRow B 33 6 nv g.ks.length xs
  low : B ≤ T
section
variable {w w' : World} {B T R mo mg : Nat} {kv nv : Value} {g : Ru}
theorem TmAt.cells (h : TmAt w B T R mo mg kv nv g) : w.cell? ⟨T, 0, none⟩ = some (.pointer (some ⟨R, 0, none⟩)) ∧ w.cell? ⟨T, 1, none⟩ = some nv ∧ w.frozen? ⟨T, 1, none⟩ = false := by
  have := h.head
  simp [World.cell?, World.frozen?, this]
theorem TmAt.chg {S : Nat → Prop} (h : TmAt w B T R mo mg kv nv g) (hc : Chg S w w') (h0 : ¬ S T) (h1 : ¬ S R) (h2 : ¬ S mo) (h3 : ¬ S mg) (h4 : ∀ j, kv.ownBlock = some j → ¬ S j) (h5 : ∀ j, nv.ownBlock = some j → ¬ S j) : TmAt w' B T R mo mg kv nv g := by
  have hT := (Array.getElem?_eq_some_iff.1 h.head).1
  obtain ⟨xs, hx⟩ := h.row
  exact ⟨h.ru.chg hc h1 h2 h3 h4, (hc.block T hT h0).trans h.head, ⟨xs, ownsRow_chg hx hc h5⟩, h.low⟩
theorem TmAt.kept (h : TmAt w B T R mo mg kv nv g) (hb : Below w.heap.size w w') : TmAt w' B T R mo mg kv nv g := h.chg (S := fun _ => False) (.of_below hb) (fun h => h) (fun h => h) (fun h => h) (fun h => h) (fun _ _ h => h) (fun _ _ h => h)
theorem RuAt.sizes (h : RuAt w B R mo mg kv g) : R < w.heap.size ∧ mo < w.heap.size ∧ mg < w.heap.size := ⟨(Array.getElem?_eq_some_iff.1 h.head).1, h.ops.lt, h.great.lt⟩
set_option maxRecDepth 100000 in
set_option maxHeartbeats 2000000 in
theorem New_any (w : World) (b r : Int) (hb : b ≤ 9223372036854775807) (hr : r ≤ 9223372036854775807) :
    Calls Tryz.prog 15 #[.int .i64 b, .int .i64 r] w (fun e w' => ∃ T R mo mg, e = .returned (.pointer (some ⟨T, 0, none⟩)) ∧ TmAt w' w.heap.size T R mo mg (.slice none 0 0) (.slice none 0 0) (startRu b r) ∧ Below w.heap.size w w') := by
  have HN := Lib.hid (newRules_any w b r hb hr)
  clear hb hr
  go_enter Tryz.func15, Tryz.ntmps15
  go_wp2_with fail
  refine HN.out.mono ?_
  rintro e w1 ⟨R, mo, mg, rfl, h1⟩
  have HH := Lib.hid h1
  clear h1
  go_wp2_with fail
  go_ret
  have b2 : Below w1.heap.size w1 (w1.alloc (.cells #[.pointer (some ⟨R, 0, none⟩), .slice none 0 0] 86)) := (Below.refl _ _).alloc (Nat.le_refl _) _
  refine ⟨w1.heap.size, R, mo, mg, rfl, ⟨HH.out.ru.kept b2, heap_alloc_new w1 _, ⟨[], World.ownsRow_nil _ _ _ _⟩, HH.out.below.size⟩, HH.out.below.trans (b2.mono HH.out.below.size)⟩
set_option maxRecDepth 100000 in
theorem Sort_any (h : TmAt w B T R mo mg kv nv g) (x : Int) : Calls Tryz.prog 18 #[.pointer (some ⟨T, 0, none⟩), .int .i64 x] w (GivesV (.int .i64 (kindOf g.ks x).1) w) := by
  have HK := Lib.hid (kind_any h.ru x)
  obtain ⟨c0, _, _⟩ := h.cells
  generalize kindOf g.ks x = q at *
  obtain ⟨q1, q2⟩ := q
  dsimp only at HK ⊢
  have hfs := field_sort
  clear h
  go_enter Tryz.func18, Tryz.ntmps18
  go_wp2_with fail
  refine HK.out.mono ?_
  rintro e w' ⟨rfl, hb⟩
  have HB := Lib.hid hb
  clear hb
  go_wp2_with fail
  go_ret
  exact GivesV.mk' rfl HB.out
end
end Go.Proofs.YthnklohpmcebkaaGreatDoor
