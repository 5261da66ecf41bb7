/-
  Layer 7: how the token that begins with a byte is read: the table of the ways.
-/
import Derived.Test.YtgojipnhnmigpaaLxNum
import Derived.Laws.Tables
import Derived.Laws.EntriesVeiled
set_option linter.unusedVariables false
set_option linter.unusedSimpArgs false
namespace Go.Proofs.Ytgojipnhnmigpaa
open Go.RowKit Lx

section
variable {P : Program} {ops : Array Oper} {o : Oper} {a : Act} {w : World} {K : Act → World → Prop} {Q : Exit → Act → World → Prop} {rest : List Oper}
/-- A variable of many cells is made. -/
theorem wpList_alloc_agg (hgd : o.guard = none) (ty : TypeId) (ho : o.op = .alloc ty) (Z : Array Value) (hz : ∀ w, (zeroValue ty).run P w = .ok (.agg Z) w)
    (h : wpList P ops Q rest (a.put o.dst (.pointer (some ⟨w.heap.size, 0, none⟩))) (w.alloc (.cells Z ty))) : wpList P ops Q (o :: rest) a w :=
  wpList_plain hgd fun K hK => by
    have hr : (Instr.alloc ty true (.tuple #[])).run P w = .ok (.pointer (some ⟨w.heap.size, 0, none⟩)) (w.alloc (.cells Z ty)) := by
      simp [Instr.alloc, hz, newVar, newRow, Value.cells]
    unfold Oper.wp execOp
    simp only [ho, Sem.run_bind, hr, Result.andThen_ok, Sem.run_pure]
    exact hK _ _ h
/-- A value of many cells goes into a variable of its own. -/
theorem wpList_box_agg (hgd : o.guard = none) (ty : TypeId) (x : Operand) (ho : o.op = .box ty x) (C : Array Value) (hx : a.eval x = .agg C)
    (h : wpList P ops Q rest (a.put o.dst (.pointer (some ⟨w.heap.size, 0, none⟩))) (w.alloc (.cells C ty))) : wpList P ops Q (o :: rest) a w :=
  wpList_plain hgd fun K hK => by
    have hr : (Instr.box ty (.agg C)).run P w = .ok (.pointer (some ⟨w.heap.size, 0, none⟩)) (w.alloc (.cells C ty)) := by
      simp [Instr.box, newVar, newRow, Value.cells]
    unfold Oper.wp execOp
    simp only [ho, hx, Sem.run_bind, hr, Result.andThen_ok, Sem.run_pure]
    exact hK _ _ h
/-- Many cells into the block that was made last. -/
theorem wpList_store_new (hgd : o.guard = none) (ty : TypeId) (x y : Operand) (ho : o.op = .store ty x y) (w0 : World) (C C' : Array Value) (hx : a.eval x = .pointer (some ⟨w0.heap.size, 0, none⟩)) (hy : a.eval y = .agg C')
    (hw : w = w0.alloc (.cells C ty)) (hi : (P.info? ty).map (·.size) = some C'.size) (hs : C.size = C'.size) (h1 : C'.all (·.oneCell') = true)
    (h : wpList P ops Q rest (a.put o.dst undef) (w0.alloc (.cells C' ty))) : wpList P ops Q (o :: rest) a w :=
  wpList_plain hgd fun K hK => by
    subst hw
    have hr := run_storeAt_new (P := P) w0 ty C C' hi hs h1
    unfold Oper.wp execOp
    simp only [ho, hx, hy, Sem.run_bind, hr, Result.andThen_ok, Sem.run_pure]
    exact hK _ _ h
/-- Many cells are read, in a region, whatever the order. -/
theorem run_load_op {o : Oper} {a : Act} {w : World} (ty : TypeId) (x : Operand) (ho : o.op = .load ty x)
    (b off : Nat) (hx : a.eval x = .pointer (some ⟨b, off, none⟩)) (cs : List Value) (d : TypeDesc) (hc : w.rangeAt b off cs)
    (hu : P.underlying ty = some d) (hd : d.isRow = true) (hi : (P.info? ty).map (·.size) = some cs.length) : (execOp a.eval o).run P w = .ok (.value (.agg cs.toArray)) w := by
  unfold execOp
  simp only [ho, hx, Instr.loadAt, Instr.sureAddr, Sem.run_bind, Sem.run_pure, Result.andThen_ok, run_loadVar_mid w b off ty cs d hc hu hd hi]
end
theorem wpList_val {P : Program} {ops : Array Oper} {Q : Exit → Act → World → Prop} {a : Act} {w : World} {rest : List Oper} {o : Oper} (v : Value) (hr : (execOp a.eval o).run P w = .ok (.value v) w) (hw : Region.wanted o (yielded ops a.tmps) = true)
    (h : wpList P ops Q rest (a.put o.dst v) w) : wpList P ops Q (o :: rest) a w :=
  wpList_step fun K hK => by
    rw [if_pos hw]
    unfold Oper.wp
    rw [hr]
    exact hK _ _ h
/-- A method of a reader, as a function's value. -/
def fv (fid : FuncId) (x : Value) : Value := .func (.func fid) #[x] #[]
def baseAt (x : Value) (c : Nat) : Value :=
  if c = 40 ∨ c = 41 then fv 29 x else if c = 124 then fv 30 x else if c = 58 then fv 31 x else if c = 34 then fv 32 x else .nilFunc
def wayAt (x : Value) (c : Nat) : Value := if digitB (c : Int) = true then fv 34 x else if innerB (c : Int) = true then fv 33 x else baseAt x c
def waysTo (x : Value) (k : Nat) : List Value := (List.range 256).map fun c => if c < k then wayAt x c else baseAt x c
theorem waysTo_len (x : Value) (k : Nat) : (waysTo x k).length = 256 := by simp [waysTo]
theorem waysTo_at (x : Value) (k c : Nat) (hc : c < 256) : (waysTo x k)[c]? = some (if c < k then wayAt x c else baseAt x c) := by
  simp [waysTo, hc]
theorem waysTo_set (x : Value) (k : Nat) (hk : k < 256) : (waysTo x k).set k (wayAt x k) = waysTo x (k + 1) := by
  refine List.ext_getElem? (fun c => ?_)
  by_cases hc : c < 256
  · rw [waysTo_at _ _ _ hc, List.getElem?_set]
    by_cases e : k = c
    · subst e
      rw [if_pos rfl, if_pos (by rw [waysTo_len]; exact hk), if_pos (by omega)]
    · rw [if_neg e, waysTo_at _ _ _ hc]
      congr 1
      by_cases h : c < k
      · rw [if_pos h, if_pos (by omega)]
      · rw [if_neg h, if_neg (by omega)]
  · rw [List.getElem?_eq_none (by simp [waysTo_len]; omega), List.getElem?_eq_none (by rw [waysTo_len]; omega)]
theorem waysTo_same (x : Value) (k : Nat) (h : wayAt x k = baseAt x k) : waysTo x k = waysTo x (k + 1) := by
  refine List.ext_getElem? (fun c => ?_)
  by_cases hc : c < 256
  · rw [waysTo_at _ _ _ hc, waysTo_at _ _ _ hc]
    congr 1
    by_cases e : c = k
    · subst e
      rw [if_neg (by omega), if_pos (by omega), h]
    · by_cases hk : c < k
      · rw [if_pos hk, if_pos (by omega)]
      · rw [if_neg hk, if_neg (by omega)]
  · rw [List.getElem?_eq_none (by rw [waysTo_len]; omega), List.getElem?_eq_none (by rw [waysTo_len]; omega)]
theorem fv_one (fid : FuncId) (x : Value) : (fv fid x).oneCell' = true := rfl
theorem base_one (x : Value) (c : Nat) : (baseAt x c).oneCell' = true := by
  unfold baseAt
  split
  · rfl
  split
  · rfl
  split
  · rfl
  split <;> rfl
theorem way_one (x : Value) (c : Nat) : (wayAt x c).oneCell' = true := by
  unfold wayAt
  split
  · rfl
  split
  · rfl
  exact base_one x c
theorem ways_one (x : Value) (k : Nat) : ∀ v ∈ waysTo x k, v.oneCell' = true := by
  intro v hv
  obtain ⟨c, _, rfl⟩ := List.mem_map.1 hv
  split
  · exact way_one x c
  · exact base_one x c
theorem size_ways : (Try.prog.info? 61).map (·.size) = some 256 := by kernel_rfl
theorem zero_ways : (Try.prog.info? 61).map (fun i => (i.zero, i.size)) = some (some (.agg (List.replicate 256 Value.nilFunc).toArray), 256) := by kernel_rfl
set_option maxRecDepth 100000 in
theorem built_ways (x : Value) : Try.prog.built 61 [(40, fv 29 x), (41, fv 29 x), (124, fv 30 x), (58, fv 31 x), (34, fv 32 x)] = some (waysTo x 0).toArray := by kernel_rfl
theorem run_build_ways {o : Oper} {aa : Act} {w : World} {x : Value} {T : List Value} (hT : waysTo x 0 = T) (ho : o.op = .build 61 #[(40, .tmp 8), (41, .tmp 10), (124, .tmp 12), (58, .tmp 14), (34, .tmp 16)])
    (h8 : aa.eval (.tmp 8) = fv 29 x) (h10 : aa.eval (.tmp 10) = fv 29 x) (h12 : aa.eval (.tmp 12) = fv 30 x) (h14 : aa.eval (.tmp 14) = fv 31 x) (h16 : aa.eval (.tmp 16) = fv 32 x) :
    (execOp aa.eval o).run Try.prog w = .ok (.value (.agg T.toArray)) w := by
  have h := run_build (P := Try.prog) w 61 #[(40, fv 29 x), (41, fv 29 x), (124, fv 30 x), (58, fv 31 x), (34, fv 32 x)] _ (built_ways x)
  rw [hT] at h
  unfold execOp
  simp only [ho, List.map_toArray, List.map_cons, List.map_nil, h8, h10, h12, h14, h16, Sem.run_bind, h, Result.andThen_ok, Sem.run_pure]
set_option maxRecDepth 100000 in
set_option maxHeartbeats 2000000 in
theorem ways_any (w : World) (R : Nat) : Calls Try.prog 20 #[.pointer (some ⟨R, 0, none⟩)] w fun e w' => e = .returned (.agg (waysTo (.pointer (some ⟨R, 0, none⟩)) 256).toArray) ∧ Below w.heap.size w w' := by
  have zs := fun w => (zero_of_info zero_ways).1 w
  obtain ⟨Z, hZ⟩ : ∃ Z, List.replicate 256 Value.nilFunc = Z := ⟨_, rfl⟩
  have hZl : Z.length = 256 := by rw [← hZ]; simp
  rw [hZ] at zs
  have HZL := Lib.hid hZl
  obtain ⟨x, hx⟩ : ∃ x, x = Value.pointer (some ⟨R, 0, none⟩) := ⟨_, rfl⟩
  rw [← hx]
  have HX := Lib.hid hx
  obtain ⟨W, hW⟩ : ∃ W, W = w.alloc (.cells Z.toArray 61) := ⟨_, rfl⟩
  have hWs : W.heap.size = w.heap.size + 1 := by rw [hW]; simp
  have HWS := Lib.hid hWs
  have HW := Lib.hid hW
  obtain ⟨T, hT⟩ : ∃ T, waysTo x 0 = T := ⟨_, rfl⟩
  have hTl : T.length = 256 := by rw [← hT]; exact waysTo_len _ _
  have h1 : ∀ v ∈ T, v.oneCell' = true := by rw [← hT]; exact ways_one _ _
  have HT := Lib.hid hT
  have hszT : (Try.prog.info? 61).map (·.size) = some T.toArray.size := by rw [List.size_toArray, hTl]; exact size_ways
  have hallT : T.toArray.all (·.oneCell') = true := all_oneCell_toArray h1
  have H0 : Hid (W.alloc (.cells T.toArray 61) = W.alloc (.cells (waysTo x 0).toArray 61)) := Lib.hid (by rw [hT])
  have HTL := Lib.hid hTl
  clear hZ hZl hW hx hT h1 hTl hWs
  go_enter Try.func20, Try.ntmps20
  go_wp2_with (first | (with_reducible refine wpList_alloc_agg rfl 61 rfl Z.toArray zs ?_; (try rw [← HW.out])) | (refine wpList_val (.agg T.toArray) (run_build_ways HT.out (by with_reducible rfl) (by rfl) (by rfl) (by rfl) (by rfl) (by rfl)) (by rfl) ?_) | (with_reducible refine wpList_store_new rfl 61 (.tmp 3) (.tmp 17) rfl W Z.toArray T.toArray rfl rfl rfl hszT (by rw [List.size_toArray, List.size_toArray, HZL.out, HTL.out]) hallT ?_))
  go_loopw [22] (fun (i : Value) (wr : World) => ∃ k : Nat, k ≤ 256 ∧ i = .int .i64 (k : Int) ∧ Hid (wr = W.alloc (.cells (waysTo x k).toArray 61))) (fun i _ => 256 - (intOf i).toNat)
  case atStart => exact ⟨0, Nat.zero_le _, rfl, Lib.hid H0.out⟩
  case round =>
    obtain ⟨k, hk, rfl, HR⟩ := hrel
    by_cases hlt : k < 256
    · have hk0 : (0 : Int) ≤ (k : Int) := by omega
      have hk1 : (k : Int) < 256 := by omega
      have hkw : IntKind.u8.wrap (k : Int) = (k : Int) := IntWalk.u8_in _ (by omega)
      have hcell : ∃ v0, wr.cell? ⟨W.heap.size, k, none⟩ = some v0 := ⟨_, by
        rw [HR.out, World.cell?_alloc_new, List.getElem?_toArray]
        exact waysTo_at _ _ _ hlt⟩
      obtain ⟨v0, hcell⟩ := hcell
      have hfr : wr.frozen? ⟨W.heap.size, k, none⟩ = false := by
        rw [HR.out, World.frozen?_alloc_new]
      have hst : ∀ v, v = wayAt x k → wr.setCell ⟨W.heap.size, k, none⟩ v = W.alloc (.cells (waysTo x (k + 1)).toArray 61) := by
        rintro v rfl
        rw [HR.out, World.setCell_alloc_new, ← waysTo_set x k hlt]
        simp
      have HLT := Lib.hid hlt
      have HD := Lib.hid (isDigit_any wr (k : Int))
      have HI := Lib.hid (isOfSymbol_any wr (k : Int) hk0 hk1)
      by_cases hd : digitB (k : Int) = true
      · rw [hd] at HD
        have HST : Hid (wr.setCell ⟨W.heap.size, k, none⟩ (fv 34 x) = W.alloc (.cells (waysTo x (k + 1)).toArray 61)) := Lib.hid (hst _ (by rw [wayAt, if_pos hd]))
        clear hk hlt hd hst zs HI
        go_wp2_with fail
        refine HD.out.mono ?_
        rintro e w1 ⟨rfl, rfl⟩
        go_wp2_with fail
        go_roundw
        case rel => exact ⟨k + 1, by have := HLT.out; omega, by go_num, HST⟩
        case measure => simp [intOf]; have := HLT.out; omega
      · have hd' : digitB (k : Int) = false := by simpa using hd
        rw [hd'] at HD
        by_cases hn : innerB (k : Int) = true
        · rw [hn] at HI
          have HST : Hid (wr.setCell ⟨W.heap.size, k, none⟩ (fv 33 x) = W.alloc (.cells (waysTo x (k + 1)).toArray 61)) := Lib.hid (hst _ (by rw [wayAt, if_neg hd, if_pos hn]))
          clear hk hlt hd hd' hn hst zs
          go_wp2_with fail
          refine HD.out.mono ?_
          rintro e w1 ⟨rfl, rfl⟩
          go_wp2_with fail
          refine HI.out.mono ?_
          rintro e w1 ⟨rfl, rfl⟩
          go_wp2_with fail
          go_roundw
          case rel => exact ⟨k + 1, by have := HLT.out; omega, by go_num, HST⟩
          case measure => simp [intOf]; have := HLT.out; omega
        · have hn' : innerB (k : Int) = false := by simpa using hn
          rw [hn'] at HI
          have HST : Hid (wr = W.alloc (.cells (waysTo x (k + 1)).toArray 61)) := Lib.hid (by rw [HR.out, waysTo_same x k (by rw [wayAt, if_neg hd, if_neg hn])])
          clear hk hlt hd hd' hn hn' hst zs
          go_wp2_with fail
          refine HD.out.mono ?_
          rintro e w1 ⟨rfl, rfl⟩
          go_wp2_with fail
          refine HI.out.mono ?_
          rintro e w1 ⟨rfl, rfl⟩
          go_wp2_with fail
          go_roundw
          case rel => exact ⟨k + 1, by have := HLT.out; omega, by go_num, HST⟩
          case measure => simp [intOf]; have := HLT.out; omega
    · obtain rfl : k = 256 := by omega
      have hl : (waysTo x 256).length = 256 := waysTo_len _ _
      have h1 := ways_one x 256
      clear HT H0
      obtain ⟨T2, hT2⟩ : ∃ T2, waysTo x 256 = T2 := ⟨_, rfl⟩
      have hr := HR.out
      rw [hT2] at hr hl h1
      subst hr
      have HTT := Lib.hid hT2
      clear hT2
      have r1 : (W.alloc (.cells T2.toArray 61)).rangeAt W.heap.size 0 T2 := by
        skip
        exact rangeAt_new _ _ _
      have hth : (W.alloc (.cells T2.toArray 61)).there w.heap.size 0 T2.toArray.size := by
        refine World.there_alloc ?_ _
        intro j hj
        have hb := heap_alloc_last w (.cells Z.toArray 61)
        rw [← HW.out] at hb
        have := HZL.out
        simp [World.cell?, World.frozen?, hb]
        simp at hj
        omega
      have hsz : (Try.prog.info? 61).map (·.size) = some T2.length := by rw [hl]; exact size_ways
      have hall : T2.toArray.all (·.oneCell') = true := all_oneCell_toArray h1
      have hld := run_loadVar_mid (P := Try.prog) ((W.alloc (.cells T2.toArray 61)).setCells w.heap.size 0 T2) w.heap.size 0 61 T2 _ (World.rangeAt_setCells_same _ _ _ _ (by simpa using hth)) Try.underlying61 rfl hsz
      have hb : Below w.heap.size w ((W.alloc (.cells T2.toArray 61)).setCells w.heap.size 0 T2) := by
        have hB1 : Below w.heap.size w (W.alloc (.cells T2.toArray 61)) := by
          rw [HW.out]
          exact ((Below.refl _ _).alloc (Nat.le_refl _) _).alloc (by simp) _
        exact hB1.trans ((chg_setCells (S := fun j => j = w.heap.size) rfl _ _ _).below (fun k hk => by omega) hB1.size)
      have HB := Lib.hid hb
      have HLD := Lib.hid hld
      clear hk hlt HR hb hld zs h1
      go_wp2_with (first | (with_reducible refine wpList_load_mid rfl 61 (.tmp 3) rfl W.heap.size 0 rfl T2 _ r1 Try.underlying61 rfl hsz ?_) | (with_reducible refine wpList_store_mid rfl 61 (.tmp 2) (.tmp 40) rfl w.heap.size 0 T2.toArray rfl rfl hth (by rw [List.size_toArray]; exact hsz) hall ?_))
      refine bodyPost_ret (v := .agg T2.toArray) ?_ rfl ⟨by rw [HTT.out], HB.out⟩
      have := HLD.out
      simp [results, Try.results20, asAddr, Act.put, this]
end Go.Proofs.Ytgojipnhnmigpaa

