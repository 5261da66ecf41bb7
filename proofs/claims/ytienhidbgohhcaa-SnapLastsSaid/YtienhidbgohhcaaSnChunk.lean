/-
  Layer 6: slices.Chunk of bytes, in pieces of 64.
-/
import Derived.Test.YtienhidbgohhcaaSnParse
import Derived.Test.YtienhidbgohhcaaRangeF
set_option linter.unusedVariables false
set_option linter.unusedSimpArgs false
namespace Go.Proofs.Ytienhidbgohhcaa
open Go.RowKit Rf
attribute [local go_sem] Oper.semAt_some

/-- The pieces that come: each with its number, and its length. -/
def Piece (L : Nat) (pre : List (Nat × Nat)) (x : Nat × Nat) : Prop := 64 * pre.length < L ∧ x.1 = pre.length ∧ x.2 = min 64 (L - 64 * pre.length)
def encPiece (g off : Nat) (x : Nat × Nat) : Array Value := #[Value.slice (some ⟨g, off + 64 * x.1, none⟩) x.2 x.2]
set_option maxRecDepth 100000 in
set_option maxHeartbeats 400000 in
theorem chunk_maker (a : Option Addr) (len cap : Nat) (w : World) :
    Calls Try.prog 29 #[.slice a len cap, .int .i64 64] w fun e w' => e = .returned (.func (.func 38) #[] #[.pointer (some ⟨w.heap.size, 0, none⟩), .pointer (some ⟨w.heap.size + 1, 0, none⟩)]) ∧
      w' = (w.alloc (.cells #[.slice a len cap] 29)).alloc (.cells #[.int .i64 64] 3) := by
  go_enter Try.func29, Try.ntmps29
  go_wp2
  go_ret
  exact ⟨rfl, rfl⟩
set_option maxRecDepth 100000 in
set_option maxHeartbeats 2000000 in
theorem chunk_iter (n : Nat) (hn : 1 ≤ n) (bs bn g off L cap : Nat) (a : Option Addr) (hL : L ≤ 100000000) (hc : L ≤ cap) (ha : 0 < L → a = some ⟨g, off, none⟩) (I : List (Nat × Nat) → World → Prop)
    (hI : ∀ pre W, I pre W → W.cell? ⟨bs, 0, none⟩ = some (.slice a L cap) ∧ W.cell? ⟨bn, 0, none⟩ = some (.int .i64 64)) :
    IteratesD n Try.prog 38 #[.pointer (some ⟨bs, 0, none⟩), .pointer (some ⟨bn, 0, none⟩)] (encPiece g off) (Piece L) (fun pre => L ≤ 64 * pre.length ∧ 64 * pre.length < L + 64) (fun _ => True) I := by
  intro l J Jx W hJI hJd hY h0
  refine callsIn_of_wp Try.func38 rfl trivial ?_ rfl
  simp only [Try.ntmps38, List.size_toArray, List.length_cons, List.length_nil, Nat.reduceAdd, Nat.reduceSub, Array.replicate_succ, Array.replicate_zero, List.push_toArray, List.append_toArray, List.nil_append, List.cons_append]
  have hb := hI _ _ (hJI _ _ h0)
  have HJ := Lib.hid hJI
  have HI := Lib.hid hI
  have HY := Lib.hid hY
  have HD := Lib.hid hJd
  clear hJI hI hY hJd
  gi_wp2
  gi_loopw [4] (fun i wr => ∃ (pre : List (Nat × Nat)), 64 * pre.length < L + 64 ∧ i = .int .i64 ((64 * pre.length : Nat) : Int) ∧ J pre wr) (fun i _ => L + 64 - (intOf i).toNat)
  case atStart => exact ⟨[], by simp, rfl, h0⟩
  case round =>
    obtain ⟨pre, hk, rfl, hJ⟩ := hrel
    clear hb
    obtain ⟨hb1, hb2⟩ := HI.out _ _ (HJ.out _ _ hJ)
    by_cases hlt : 64 * pre.length < L
    · obtain rfl := ha (by omega)
      have HP := Lib.hid hlt
      have hp0 : (0 : Int) ≤ ((64 * pre.length : Nat) : Int) := by omega
      have hp1 : ((64 * pre.length : Nat) : Int) < (L : Int) := by omega
      generalize hpe : 64 * pre.length = p at *
      have HPE := Lib.hid hpe
      clear hpe
      have hmi : (if ((L - p : Nat) : Int) < 64 then ((L - p : Nat) : Int) else 64) = ((min 64 (L - p) : Nat) : Int) := by split <;> omega
      have hml : p + min 64 (L - p) ≤ L := by omega
      have hpL : p ≤ L := by omega
      have hcpn : cap ≠ p := by omega
      generalize hme : min 64 (L - p) = m at *
      have HME := Lib.hid hme
      clear hme
      gi_wp2
      refine (wpIn_wide).2 ?_
      apply Rg.cut (R := fun w' => wr.drew = w')
      case h =>
        refine wp_region_held_drew (S := (fun w' => w'.cell? ⟨bs, 0, none⟩ = some (.slice (some ⟨g, off, none⟩) L cap) ∧ w'.cell? ⟨bn, 0, none⟩ = some (.int .i64 64))) (by kernel_rfl) ?_ (fun hHeld => ?_)
        · exact ⟨hb1, hb2⟩
        refine wpAnyH_take (i := 0) (v := ?_) (by rfl) (by kernel_rfl) (by kernel_rfl) (by kernel_rfl) (by exact fun _ _ _ h => h) (Or.inl ⟨by rfl, ?_⟩) hHeld ?_
        rotate_left 1
        · intro w' hSw
          (try dsimp only at hSw)
          go_simp
          try with_reducible rfl
        try simp only [Act.put, List.setIfInBounds_toArray, List.set_cons_zero, List.set_cons_succ, List.getElem_toArray, List.getElem_cons_zero, List.getElem_cons_succ]
        refine wpAnyH_take (i := 1) (v := ?_) (by rfl) (by kernel_rfl) (by kernel_rfl) (by kernel_rfl) (by exact fun _ _ _ h => h) (Or.inl ⟨by rfl, ?_⟩) hHeld ?_
        rotate_left 1
        · intro w' hSw
          (try dsimp only at hSw)
          go_simp
          try with_reducible rfl
        try simp only [Act.put, List.setIfInBounds_toArray, List.set_cons_zero, List.set_cons_succ, List.getElem_toArray, List.getElem_cons_zero, List.getElem_cons_succ]
        refine wpAnyH_take (i := 2) (v := ?_) (by rfl) (by kernel_rfl) (by kernel_rfl) (by kernel_rfl) (by exact fun _ _ _ h => h) (Or.inl ⟨by rfl, ?_⟩) hHeld ?_
        rotate_left 1
        · intro w' hSw
          (try dsimp only at hSw)
          go_simp
          try with_reducible rfl
        try simp only [Act.put, List.setIfInBounds_toArray, List.set_cons_zero, List.set_cons_succ, List.getElem_toArray, List.getElem_cons_zero, List.getElem_cons_succ]
        refine wpAnyH_take (i := 3) (v := ?_) (by rfl) (by kernel_rfl) (by kernel_rfl) (by kernel_rfl) (by exact fun _ _ _ h => h) (Or.inl ⟨by rfl, ?_⟩) hHeld ?_
        rotate_left 1
        · intro w' hSw
          (try dsimp only at hSw)
          go_simp
          try with_reducible rfl
        try simp only [Act.put, List.setIfInBounds_toArray, List.set_cons_zero, List.set_cons_succ, List.getElem_toArray, List.getElem_cons_zero, List.getElem_cons_succ]
        refine wpAnyH_take (i := 4) (v := ?_) (by rfl) (by kernel_rfl) (by kernel_rfl) (by kernel_rfl) (by exact fun _ _ _ h => h) (Or.inl ⟨by rfl, ?_⟩) hHeld ?_
        rotate_left 1
        · intro w' hSw
          (try dsimp only at hSw)
          go_simp
          try with_reducible rfl
        try simp only [Act.put, List.setIfInBounds_toArray, List.set_cons_zero, List.set_cons_succ, List.getElem_toArray, List.getElem_cons_zero, List.getElem_cons_succ]
        refine wpAnyH_ready (rs := [5]) (by kernel_rfl) (by simp) ?_
        refine AllReadyH.cons (by rfl) (fun K hK => ?_) AllReadyH.nil
        go_simp
        refine hK.out _ _ ?_ (fun hHeld => ?_)
        · exact hHeld
        clear hK K
        try simp only [Act.put, List.setIfInBounds_toArray, List.set_cons_zero, List.set_cons_succ, List.getElem_toArray, List.getElem_cons_zero, List.getElem_cons_succ]
        refine wpAnyH_take (i := 6) (v := ?_) (by rfl) (by kernel_rfl) (by kernel_rfl) (by kernel_rfl) (by exact fun _ _ _ h => h) (Or.inl ⟨by rfl, ?_⟩) hHeld ?_
        rotate_left 1
        · intro w' hSw
          (try dsimp only at hSw)
          go_simp
          try with_reducible rfl
        try simp only [Act.put, List.setIfInBounds_toArray, List.set_cons_zero, List.set_cons_succ, List.getElem_toArray, List.getElem_cons_zero, List.getElem_cons_succ]
        refine wpAnyH_done (by kernel_rfl) ?_ _
        exact Rg.Only.mk' rfl rfl
      case hq =>
        rintro w' rfl
        obtain ⟨fn, tmps, assign, body, hy, hR⟩ := HY.out pre (pre.length, m) wr.drew (HD.out _ _ hJ) ⟨by rw [HPE.out]; exact HP.out, rfl, by rw [HPE.out]; exact HME.out.symm⟩
        simp only [encPiece, HPE.out] at hy
        have hb1d : wr.drew.cell? ⟨bs, 0, none⟩ = some (.slice (some ⟨g, off, none⟩) L cap) := hb1
        have hb2d : wr.drew.cell? ⟨bn, 0, none⟩ = some (.int .i64 64) := hb2
        have hpm : p + m - p = m := by omega
        have hpi : ((p + m : Nat) : Int) = (p : Int) + (m : Int) := by omega
        have hmle : p + m ≤ cap := by omega
        have hmcap : p ≤ p + m := by omega
        generalize wr.drew = wd at *
        gi_wp2
        refine hR.mono ?_
        rintro e W3 (⟨rfl, hJ3⟩ | ⟨rfl, hJx3⟩)
        · obtain ⟨hb5, hb6⟩ := HI.out _ _ (HJ.out _ _ hJ3)
          have hp64 : (p : Int) + 64 ≤ 9223372036854775807 := by omega
          have HLE := Lib.hid hL
          have HHK := Lib.hid hk
          clear hb1 hb2 hb1d hb2d hJ hR hy hmi
          gi_wp2
          go_roundw
          case rel => exact ⟨pre ++ [(pre.length, m)], by have := HPE.out; have := HP.out; simp; omega, by have := HPE.out; simp; omega, hJ3⟩
          case measure => simp only [intOf]; have := HP.out; omega
        · gi_wp2
          refine bodyPost_ret (results_none rfl _ _ _) rfl ?_
          exact ⟨⟨_, rfl⟩, .inr ⟨_, trivial, hJx3⟩⟩
    · have hlt' : decide (((64 * pre.length : Nat) : Int) < (L : Int)) = false := by simp; omega
      have HK := Lib.hid hk
      have HLT := Lib.hid hlt
      clear hk hlt
      generalize hpe : 64 * pre.length = p at *
      have HPE := Lib.hid hpe
      clear hpe
      gi_wp2
      go_end0
      exact ⟨⟨_, rfl⟩, .inl ⟨pre, ⟨by have := HLT.out; have := HPE.out; omega, by have := HK.out; have := HPE.out; omega⟩, hJ⟩⟩
end Go.Proofs.Ytienhidbgohhcaa
