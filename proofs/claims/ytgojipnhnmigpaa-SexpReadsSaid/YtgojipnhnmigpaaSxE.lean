/-
  Layer 8: Read.
-/
import Derived.Test.YtgojipnhnmigpaaSxD
set_option linter.unusedVariables false
set_option linter.unusedSimpArgs false
namespace Go.Proofs.Ytgojipnhnmigpaa
open Go.RowKit Sx

/-- What a read of tokens comes to. -/
def SRead (ts : List Tk) (w : World) (e : Ending) (w' : World) : Prop :=
  Below w.heap.size w w' ∧ match readS ts with
    | .error x => x.1 ≠ 0 ∧ e = .returned (.tuple #[.slice none 0 0, .agg #[.int .i64 x.1, .int .i64 x.2]])
    | .ok y => ∃ v, e = .returned (.tuple #[v, .agg #[.int .i64 0, .int .i64 0]]) ∧ SlAt w' (fun k => w.heap.size ≤ k) v y
theorem build_fault {o : Oper} {a : Act} {w : World} {x y : Operand} {p q : Int} (ho : o.op = .build 27 #[(0, x), (1, y)]) (hx : a.eval x = .int .i64 p) (hy : a.eval y = .int .i64 q) :
    (execOp a.eval o).run Try.prog w = .ok (.value (.agg #[.int .i64 p, .int .i64 q])) w := by
  have hz := (zero_of_info zero_fault).1 w
  have e1 : ∀ w, (sizeOf 25).run Try.prog w = .ok 1 w := fun w => size_of (by kernel_rfl) w
  have e3 : ∀ w, (sizeOf 3).run Try.prog w = .ok 1 w := fun w => size_of (by kernel_rfl) w
  have : (Instr.build 27 #[(0, .int .i64 p), (1, .int .i64 q)]).run Try.prog w = .ok (.agg #[.int .i64 p, .int .i64 q]) w := by
    simp [Instr.build, hz, run_underlying Try.underlying27, e1, e3, Instr.fill, Value.cells]
  unfold execOp
  simp [ho, hx, hy, this]
theorem zero_token : (Try.prog.info? 35).map (fun i => (i.zero, i.size)) = some (some (.agg #[.int .i64 0, .string { data := #[] }, .int .i64 0]), 3) := by kernel_rfl
theorem load_int {o : Oper} {a : Act} {w : World} (x : Operand) (ho : o.op = .load 3 x) {b off : Nat} (hx : a.eval x = .pointer (some ⟨b, off, none⟩)) {v : Value} (hc : w.cell? ⟨b, off, none⟩ = some v) : (execOp a.eval o).run Try.prog w = .ok (.value v) w := by
  unfold execOp
  simp only [ho, hx]
  go_simp
section
variable {w w1 W W' : World} {b : Nat}
/-- The fault's variable is filled. -/
theorem flt_ends (hf : W.heap[b]? = some (.cells #[.int .i64 0, .int .i64 0] 27 (0, 0))) (x y : Int) : W.there b 0 (#[Value.int .i64 x, .int .i64 y] : Array Value).size ∧ Chg (fun k => k = b) W (W.setCells b 0 [.int .i64 x, .int .i64 y]) ∧
    (loadVar 27 ⟨b, 0, none⟩).run Try.prog (W.setCells b 0 [.int .i64 x, .int .i64 y]) = .ok (.agg #[.int .i64 x, .int .i64 y]) (W.setCells b 0 [.int .i64 x, .int .i64 y]) := by
  have hth : W.there b 0 2 := fun j hj => by
    simp [World.cell?, World.frozen?, hf]
    omega
  exact ⟨hth, chg_setCells (S := fun k => k = b) rfl _ _ _, load_fault (World.rangeAt_setCells_same _ _ _ _ hth)⟩
set_option maxRecDepth 100000 in
set_option maxHeartbeats 16000000 in
theorem SRead_any {a : Option Addr} {c : Nat} {ts : List Tk} (hin : TksIn w a ts c) (hl : ts.length ≤ 100000) : Calls Try.prog 7 #[.slice a ts.length c] w (SRead ts w) := by
  obtain ⟨W1, hW1⟩ : ∃ W1, W1 = w.alloc (.cells #[.int .i64 0, .int .i64 0] 27) := ⟨_, rfl⟩
  have hb1 : Below w.heap.size w W1 := by rw [hW1]; exact (Below.refl _ _).alloc (Nat.le_refl _) _
  have hs1 : W1.heap.size = w.heap.size + 1 := by rw [hW1]; simp
  have hf1 : W1.heap[w.heap.size]? = some (.cells #[.int .i64 0, .int .i64 0] 27 (0, 0)) := by rw [hW1]; exact heap_alloc_last _ _
  have HNEW := Lib.hid (new_any W1)
  have HIN := Lib.hid hin.at_
  obtain ⟨L, hL⟩ : ∃ L, ts.length = L := ⟨_, rfl⟩
  have HL := Lib.hid hL
  have HLS : Hid (ts.length ≤ 100000) := Lib.hid hl
  have hLs : (L : Int) ≤ 100000 := by omega
  have HB1 := Lib.hid (And.intro hb1 (And.intro hs1 hf1))
  rw [hL]
  clear hin hl hL hb1 hs1 hf1
  go_enter Try.func7, Try.ntmps7
  go_wp2_with (first | (go_at_call 12; rw [← hW1]; clear hW1; refine HNEW.out.mono ?_; rintro e w2 ⟨rfl, h2⟩; have H2 := Lib.hid h2; clear h2 HNEW))
  obtain ⟨R, hR⟩ : ∃ R, W1.heap.size + 1 = R := ⟨_, rfl⟩
  rw [hR] at H2
  try simp only [hR]
  go_loopw [11] (fun (v : Value) (wr : World) => ∃ (i : Nat) (fs : List Fr) (sv : Value) (vs : List Value), v = .int .i64 (i : Int) ∧ i ≤ L ∧ Hid (readS ts = runF fs (ts.drop i) ∧ RSt W1 R i wr fs sv vs)) (fun v _ => L - (intOf v).toNat)
  case atStart => exact ⟨0, [base], _, _, rfl, Nat.zero_le _, Lib.hid ⟨rfl, H2.out⟩⟩
  case round =>
    obtain ⟨i, fs, sv, vs, rfl, hi, HK⟩ := hrel
    clear H2
    by_cases hiL : i < L
    · obtain ⟨⟨K, T, P⟩, ht⟩ : ∃ t, ts[i]? = some t := ⟨_, List.getElem?_eq_getElem (by rw [HL.out]; exact hiL)⟩
      have hst := HK.out.2
      have hbw := HB1.out.1.trans (hst.below.mono HB1.out.1.size)
      obtain ⟨g, off, rfl, hx⟩ := (HIN.out.kept hbw).get ht
      have hx' : wr.rangeAt g (off + i * 3) [.int .i64 K, .string T, .int .i64 P] := hx
      have hsay : readS ts = runF fs (⟨K, T, P⟩ :: ts.drop (i + 1)) := by
        obtain ⟨hlt, he⟩ := List.getElem?_eq_some_iff.1 ht
        rw [HK.out.1, List.drop_eq_getElem_cons hlt, he]
      have b4 : Below wr.heap.size wr (wr.alloc (.cells #[.int .i64 K, .string T, .int .i64 P] 35)) := (Below.refl _ _).alloc (Nat.le_refl _) _
      have HRD := Lib.hid (read_any (K := K) (P := P) (T := T) (hst.kept b4) (by have := HLS.out; rw [HL.out] at this; omega))
      have hflt : wr.heap[w.heap.size]? = some (.cells #[.int .i64 0, .int .i64 0] 27 (0, 0)) := (hst.below.block _ (by rw [HB1.out.2.1]; omega)).trans HB1.out.2.2
      have HX := Lib.hid hx'
      have HY := Lib.hid (rangeAt_new wr [.int .i64 K, .string T, .int .i64 P] 35)
      have HM := Lib.hid (And.intro hsay (And.intro b4 (And.intro hflt hbw)))
      have hone : (#[Value.int .i64 K, .string T, .int .i64 P] : Array Value).all (·.oneCell') = true := by simp [Value.oneCell']
      have zt := fun w => (zero_of_info zero_token).1 w
      have hiL' : (i : Int) < (L : Int) := by omega
      have hiw : IntKind.i64.wrap ((i : Int) + 1) = (i : Int) + 1 := IntWalk.i64_in _ (by omega)
      clear hx hx' hsay b4 hflt hbw hst ht
      go_wp2_with (first | (refine wpList_val (.agg #[.int .i64 K, .string T, .int .i64 P]) (run_load_op 35 (.tmp 13) (by with_reducible rfl) g (off + i * 3) (by rfl) [.int .i64 K, .string T, .int .i64 P] _ HX.out Try.underlying35 rfl (by rw [size_token]; rfl)) (by rfl) ?_) | (refine wpList_val (.agg #[.int .i64 K, .string T, .int .i64 P]) (run_load_op 35 (.tmp 6) (by with_reducible rfl) wr.heap.size 0 (by rfl) [.int .i64 K, .string T, .int .i64 P] _ HY.out Try.underlying35 rfl (by rw [size_token]; rfl)) (by rfl) ?_) | (with_reducible refine wpList_alloc_agg rfl 35 rfl _ zt ?_) | (with_reducible refine wpList_store_new rfl 35 (.tmp 6) (.tmp 14) rfl wr _ #[.int .i64 K, .string T, .int .i64 P] rfl rfl rfl size_token rfl hone ?_))
      refine HRD.out.mono ?_
      rintro e w5 h5
      cases hs : stepF fs ⟨K, T, P⟩ with
      | error x =>
        rw [hs] at h5
        obtain ⟨cc, pp⟩ := x
        obtain ⟨rfl, hc0, hpp, hb5⟩ := h5
        dsimp only at hc0 hpp
        subst hpp
        have HS := Lib.hid (show readS ts = .error (cc, pp) by rw [HM.out.1, run_bad hs])
        have HC := Lib.hid hc0
        have hne : (cc == 0) = false := by simpa using hc0
        have hb6 := HM.out.2.1.trans (hb5.mono HM.out.2.1.size)
        have hflt5 := (hb6.block _ (Array.getElem?_eq_some_iff.1 HM.out.2.2.1).1).trans HM.out.2.2.1
        have hcell5 : w5.cell? ⟨wr.heap.size, 2, none⟩ = some (.int .i64 pp) := (hb5.cell (p := ⟨wr.heap.size, 2, none⟩) (by simp)).trans (by simp)
        have HE := Lib.hid (flt_ends (W := w5.drew) hflt5 cc pp)
        have HB6 := Lib.hid (HM.out.2.2.2.trans (hb6.mono HM.out.2.2.2.size))
        have HNE : Hid (wr.heap.size ≠ w.heap.size) := Lib.hid (by have := (Array.getElem?_eq_some_iff.1 HM.out.2.2.1).1; omega)
        have HC5 := Lib.hid hcell5
        clear hc0 hs hb5 hb6 hflt5 hcell5 HRD zt hone
        go_wp2_with fail
        refine wp_region_held_drew (S := (fun w' => w'.cell? ⟨wr.heap.size, 2, none⟩ = some (.int .i64 pp))) (by kernel_rfl) ?_ (fun hHeld => ?_)
        · exact HC5.out
        refine wpAnyH_take (i := 0) (v := ?_) (by rfl) (by kernel_rfl) (by kernel_rfl) (by kernel_rfl) (by exact fun _ _ _ h => h) (Or.inl ⟨by rfl, ?_⟩) hHeld ?_
        rotate_left 1
        · intro w' hSw
          (try dsimp only at hSw)
          go_simp
          try with_reducible rfl
        try simp only [Act.put, List.setIfInBounds_toArray, List.set_cons_zero, List.set_cons_succ, List.getElem_toArray, List.getElem_cons_zero, List.getElem_cons_succ]
        refine wpAnyH_take (i := 1) (v := ?_) (by rfl) (by kernel_rfl) (by kernel_rfl) (by kernel_rfl) (by exact fun _ _ _ h => h) (Or.inl ⟨by rfl, ?_⟩) hHeld ?_
        rotate_left 1
        · intro w' hSw
          (try dsimp only at hSw)
          go_simp
          try with_reducible rfl
        try simp only [Act.put, List.setIfInBounds_toArray, List.set_cons_zero, List.set_cons_succ, List.getElem_toArray, List.getElem_cons_zero, List.getElem_cons_succ]
        refine wpAnyH_take (i := 2) (v := ?_) (by rfl) (by kernel_rfl) (by kernel_rfl) (by kernel_rfl) (by exact fun _ _ _ h => h) (Or.inl ⟨by rfl, ?_⟩) hHeld ?_
        rotate_left 1
        · intro w' hSw
          (try dsimp only at hSw)
          go_simp
          try with_reducible rfl
        try simp only [Act.put, List.setIfInBounds_toArray, List.set_cons_zero, List.set_cons_succ, List.getElem_toArray, List.getElem_cons_zero, List.getElem_cons_succ]
        refine wpAnyH_take (i := 3) (v := .agg #[.int .i64 cc, .int .i64 pp]) (by rfl) (by kernel_rfl) (by kernel_rfl) (by kernel_rfl) (by exact fun _ _ _ h => h) (Or.inl ⟨by rfl, ?_⟩) hHeld ?_
        · intro w' hSw
          exact build_fault rfl rfl rfl
        try simp only [Act.put, List.setIfInBounds_toArray, List.set_cons_zero, List.set_cons_succ, List.getElem_toArray, List.getElem_cons_zero, List.getElem_cons_succ]
        refine wpAnyH_take (i := 4) (v := ?_) (by rfl) (by kernel_rfl) (by kernel_rfl) (by kernel_rfl) (by exact fun _ _ _ h => h) (Or.inl ⟨by rfl, ?_⟩) hHeld ?_
        rotate_left 1
        · intro w' hSw
          (try dsimp only at hSw)
          go_simp
          try with_reducible rfl
        try simp only [Act.put, List.setIfInBounds_toArray, List.set_cons_zero, List.set_cons_succ, List.getElem_toArray, List.getElem_cons_zero, List.getElem_cons_succ]
        refine wpAnyH_ready (rs := [5]) (by kernel_rfl) (by simp) ?_
        refine AllReadyH.cons (by rfl) (fun K hK => ?_) AllReadyH.nil
        refine step_store_cells rfl 27 (.tmp 3) (.tmp 23) rfl w.heap.size 0 (#[Value.int .i64 cc, .int .i64 pp] : Array Value) rfl rfl HE.out.1 (size_flt cc pp) (all_flt cc pp) ?_
        refine hK.out _ _ ?_ (fun hHeld => ?_)
        · exact (World.cell?_of_block (a := ⟨wr.heap.size, 2, none⟩) (heap_setCells_other _ _ _ _ _ HNE.out)).trans hHeld
        clear hK K
        try simp only [Act.put, List.setIfInBounds_toArray, List.set_cons_zero, List.set_cons_succ, List.getElem_toArray, List.getElem_cons_zero, List.getElem_cons_succ]
        refine wpAnyH_done (by kernel_rfl) ?_ _
        clear hHeld
        go_wp2_with fail
        refine bodyPost_ret (v := .tuple #[.slice none 0 0, .agg #[.int .i64 cc, .int .i64 pp]]) ?_ rfl (by unfold SRead; rw [HS.out]; exact ⟨HB6.out.drew.trans (HE.out.2.1.below (fun k hk => by rw [hk]; exact Nat.le_refl _) HB6.out.size), HC.out, rfl⟩)
        have := HE.out.2.2
        simp [results, Try.results7, asAddr, Act.put, this]
      | ok gs =>
        rw [hs] at h5
        obtain ⟨rfl, sv', vs', h6⟩ := h5
        have H6 := Lib.hid (And.intro (show readS ts = runF gs (ts.drop (i + 1)) by rw [HM.out.1, run_ok hs]) h6)
        clear hs h6 HRD zt hone
        go_wp2_with fail
        go_roundw
        case rel => exact ⟨i + 1, gs, sv', vs', by go_num, by omega, H6⟩
        case measure => simp [intOf]; omega
    · obtain rfl : i = L := by omega
      have hsay := HK.out.1
      rw [List.drop_eq_nil_of_le (by rw [HL.out]; exact Nat.le_refl _)] at hsay
      have hst := HK.out.2
      have hbw := HB1.out.1.trans (hst.below.mono HB1.out.1.size)
      have hflt : wr.heap[w.heap.size]? = some (.cells #[.int .i64 0, .int .i64 0] 27 (0, 0)) := (hst.below.block _ (by rw [HB1.out.2.1]; omega)).trans HB1.out.2.2
      obtain ⟨sg, sc, n, rfl, hn, hnc, hgl, hgR⟩ := hst.value
      have HWI := Lib.hid (within_any hst hn)
      have HLA := Lib.hid (fun X (hX : RSt W1 R i X fs (.slice (some ⟨sg, 0, none⟩) (n + 1) sc) vs) => last_any hX hn)
      have hdp := hst.deep
      have hsg : W1.heap.size ≤ sg := (hst.own (.slice (some ⟨sg, 0, none⟩) (n + 1) sc) (by simp) sg rfl).1
      have HNE : Hid (sg ≠ w.heap.size) := Lib.hid (by rw [HB1.out.2.1] at hsg; omega)
      match fs, hn, hst, hsay with
      | [], hn, _, _ => simp at hn
      | [f], hn, hst, hsay =>
        obtain rfl : n = 0 := by simpa using hn
        obtain ⟨v, rfl⟩ : ∃ v, vs = [v] := by
          have := hst.rows
          match vs, this with
          | [], t => exact t.elim
          | [v], _ => exact ⟨v, rfl⟩
          | v :: u :: r, t => exact t.2.elim
        have hcell : wr.cell? ⟨sg, 4, none⟩ = some v := by
          have := hst.stack
          rw [hn] at this
          rw [this.cellAt 4 (by omega)]
          rfl
        have hk := hst.rows.1.slice (G := fun k => w.heap.size + 1 ≤ k) (fun k hk _ => by have := hk.1; rw [HB1.out.2.1] at this; omega) (fun k hk => by have := (hst.own v (by simp) k hk).1; rw [HB1.out.2.1] at this; omega)
        have HS := Lib.hid (show readS ts = .ok f.acc by rw [hsay]; rfl)
        have HV := Lib.hid ((hk.kept ((Below.refl _ _).drew)).turn (S := fun k => k = w.heap.size) (G := fun k => w.heap.size ≤ k) (flt_ends (W := wr.drew) hflt 0 0).2.1 (fun k h _ e => by omega) (fun k h _ => by omega))
        have HLA1 := Lib.hid (HLA.out wr hst)
        have HE := Lib.hid (flt_ends (W := wr.drew) hflt 0 0)
        have HBW := Lib.hid hbw
        clear hsay hst hbw hflt hn hnc hgl hgR hdp hsg hk
        go_wp2_with (first | (go_at_call 14; refine HWI.out.mono ?_; rintro e w' ⟨rfl, rfl⟩) | (go_at_call 15; refine HLA1.out.mono ?_; rintro e w' ⟨rfl, rfl⟩) | (with_reducible refine wpList_store_mid rfl 27 (.tmp 3) (.tmp 40) rfl w.heap.size 0 (#[Value.int .i64 0, .int .i64 0] : Array Value) rfl rfl HE.out.1 (size_flt 0 0) (all_flt 0 0) ?_))
        refine bodyPost_ret (v := .tuple #[v, .agg #[.int .i64 0, .int .i64 0]]) ?_ rfl (by
          unfold SRead
          rw [HS.out]
          exact ⟨HBW.out.drew.trans (HE.out.2.1.below (fun k hk => by rw [hk]; exact Nat.le_refl _) HBW.out.size), v, rfl, HV.out⟩)
        have := HE.out.2.2
        simp [results, Try.results7, asAddr, Act.put, this]
      | f :: f2 :: fs, hn, hst, hsay =>
        obtain ⟨m, rfl⟩ : ∃ m, n = m + 1 := ⟨n - 1, by simp at hn; omega⟩
        obtain ⟨v, vs, rfl⟩ : ∃ v vs', vs = v :: vs' := by
          have := hst.rows
          match vs, this with
          | [], t => exact t.elim
          | v :: r, _ => exact ⟨v, r, rfl⟩
        obtain ⟨pp, hpp⟩ : ∃ p, f.t.p = p := ⟨_, rfl⟩
        have hcell : wr.cell? ⟨sg, (m + 1) * 5 + 1 + 2, none⟩ = some (.int .i64 pp) := by
          have := hst.stack
          have hl2 := stackC_len hst.rows.2
          rw [hn] at this
          have hl3 : (f2 :: fs).length = m + 1 := by simpa using hn
          rw [hl3] at hl2
          rw [this.cellAt _ (by omega), stackC, List.getElem?_append_right (by omega), hl2, ← hpp, show (m + 1) * 5 + 1 + 2 - (m + 1) * 5 = 3 by omega]
          rfl
        have HS := Lib.hid (show readS ts = .error (11, pp) by rw [hsay, ← hpp]; rfl)
        have HLA1 := Lib.hid (HLA.out wr.drew (hst.kept ((Below.refl _ _).drew)))
        have HE := Lib.hid (flt_ends (W := wr.drew.drew) hflt 11 pp)
        have HBW := Lib.hid hbw.drew.drew
        have HC5 := Lib.hid hcell
        have hgt : (0 : Int) < (m : Int) + 1 := by omega
        clear hsay hst hbw hflt hn hnc hgl hgR hdp hsg hcell hpp
        go_wp2_with (first | (go_at_call 14; refine HWI.out.mono ?_; rintro e w' ⟨rfl, rfl⟩))
        refine wp_region_held_drew (S := (fun w' => w'.cell? ⟨sg, (m + 1) * 5 + 1 + 2, none⟩ = some (.int .i64 pp))) (by kernel_rfl) ?_ (fun hHeld => ?_)
        · exact HC5.out
        refine wpAnyH_take (i := 0) (v := ?_) (by rfl) (by kernel_rfl) (by kernel_rfl) (by kernel_rfl) (by exact fun _ _ _ h => h) (Or.inl ⟨by rfl, ?_⟩) hHeld ?_
        rotate_left 1
        · intro w' hSw
          (try dsimp only at hSw)
          go_simp
          try with_reducible rfl
        try simp only [Act.put, List.setIfInBounds_toArray, List.set_cons_zero, List.set_cons_succ, List.getElem_toArray, List.getElem_cons_zero, List.getElem_cons_succ]
        refine wpAnyH_ready (rs := [1]) (by kernel_rfl) (by simp) ?_
        refine AllReadyH.cons (by rfl) (fun K hK => ?_) AllReadyH.nil
        go_simp
        refine HLA1.out.mono ?_
        rintro e w' ⟨rfl, rfl⟩
        refine hK.out _ _ ?_ (fun hHeld => ?_)
        · exact HC5.out
        clear hK K
        try simp only [Act.put, List.setIfInBounds_toArray, List.set_cons_zero, List.set_cons_succ, List.getElem_toArray, List.getElem_cons_zero, List.getElem_cons_succ]
        refine wpAnyH_take (i := 2) (v := ?_) (by rfl) (by kernel_rfl) (by kernel_rfl) (by kernel_rfl) (by exact fun _ _ _ h => h) (Or.inl ⟨by rfl, ?_⟩) hHeld ?_
        rotate_left 1
        · intro w' hSw
          (try dsimp only at hSw)
          go_simp
          try with_reducible rfl
        try simp only [Act.put, List.setIfInBounds_toArray, List.set_cons_zero, List.set_cons_succ, List.getElem_toArray, List.getElem_cons_zero, List.getElem_cons_succ]
        refine wpAnyH_take (i := 3) (v := ?_) (by rfl) (by kernel_rfl) (by kernel_rfl) (by kernel_rfl) (by exact fun _ _ _ h => h) (Or.inl ⟨by rfl, ?_⟩) hHeld ?_
        rotate_left 1
        · intro w' hSw
          (try dsimp only at hSw)
          go_simp
          try with_reducible rfl
        try simp only [Act.put, List.setIfInBounds_toArray, List.set_cons_zero, List.set_cons_succ, List.getElem_toArray, List.getElem_cons_zero, List.getElem_cons_succ]
        refine wpAnyH_take (i := 4) (v := ?_) (by rfl) (by kernel_rfl) (by kernel_rfl) (by kernel_rfl) (by exact fun _ _ _ h => h) (Or.inl ⟨by rfl, ?_⟩) hHeld ?_
        rotate_left 1
        · intro w' hSw
          (try dsimp only at hSw)
          go_simp
          try with_reducible rfl
        try simp only [Act.put, List.setIfInBounds_toArray, List.set_cons_zero, List.set_cons_succ, List.getElem_toArray, List.getElem_cons_zero, List.getElem_cons_succ]
        refine wpAnyH_take (i := 5) (v := .int .i64 pp) (by rfl) (by kernel_rfl) (by kernel_rfl) (by kernel_rfl) (by exact fun _ _ _ h => h) (Or.inl ⟨by rfl, ?_⟩) hHeld ?_
        · intro w' hSw
          exact load_int (.tmp 32) rfl rfl hSw
        try simp only [Act.put, List.setIfInBounds_toArray, List.set_cons_zero, List.set_cons_succ, List.getElem_toArray, List.getElem_cons_zero, List.getElem_cons_succ]
        refine wpAnyH_take (i := 6) (v := .agg #[.int .i64 11, .int .i64 pp]) (by rfl) (by kernel_rfl) (by kernel_rfl) (by kernel_rfl) (by exact fun _ _ _ h => h) (Or.inl ⟨by rfl, ?_⟩) hHeld ?_
        · intro w' hSw
          exact build_fault rfl rfl rfl
        try simp only [Act.put, List.setIfInBounds_toArray, List.set_cons_zero, List.set_cons_succ, List.getElem_toArray, List.getElem_cons_zero, List.getElem_cons_succ]
        refine wpAnyH_take (i := 7) (v := ?_) (by rfl) (by kernel_rfl) (by kernel_rfl) (by kernel_rfl) (by exact fun _ _ _ h => h) (Or.inl ⟨by rfl, ?_⟩) hHeld ?_
        rotate_left 1
        · intro w' hSw
          (try dsimp only at hSw)
          go_simp
          try with_reducible rfl
        try simp only [Act.put, List.setIfInBounds_toArray, List.set_cons_zero, List.set_cons_succ, List.getElem_toArray, List.getElem_cons_zero, List.getElem_cons_succ]
        refine wpAnyH_ready (rs := [8]) (by kernel_rfl) (by simp) ?_
        refine AllReadyH.cons (by rfl) (fun K hK => ?_) AllReadyH.nil
        refine step_store_cells rfl 27 (.tmp 3) (.tmp 34) rfl w.heap.size 0 (#[Value.int .i64 11, .int .i64 pp] : Array Value) rfl rfl HE.out.1 (size_flt 11 pp) (all_flt 11 pp) ?_
        refine hK.out _ _ ?_ (fun hHeld => ?_)
        · exact (World.cell?_of_block (a := ⟨sg, (m + 1) * 5 + 1 + 2, none⟩) (heap_setCells_other _ _ _ _ _ HNE.out)).trans HC5.out
        clear hK K
        try simp only [Act.put, List.setIfInBounds_toArray, List.set_cons_zero, List.set_cons_succ, List.getElem_toArray, List.getElem_cons_zero, List.getElem_cons_succ]
        refine wpAnyH_done (by kernel_rfl) ?_ _
        clear hHeld
        go_wp2_with fail
        refine bodyPost_ret (v := .tuple #[.slice none 0 0, .agg #[.int .i64 11, .int .i64 pp]]) ?_ rfl (by unfold SRead; rw [HS.out]; exact ⟨HBW.out.trans (HE.out.2.1.below (fun k hk => by rw [hk]; exact Nat.le_refl _) HBW.out.size), by simp, rfl⟩)
        have := HE.out.2.2
        simp [results, Try.results7, asAddr, Act.put, this]
end
end Go.Proofs.Ytgojipnhnmigpaa

