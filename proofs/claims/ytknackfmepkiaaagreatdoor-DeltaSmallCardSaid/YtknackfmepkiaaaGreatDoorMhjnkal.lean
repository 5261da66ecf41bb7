/- By program out of: SmT3, SmT24, SmT26Y. -/
import Derived.Test.YtknackfmepkiaaaGreatDoorMpbmkjd
/-
  DeltaSmall: both numbers at a small delta, in one region.
-/
set_option linter.unusedVariables false
set_option linter.unusedSimpArgs false
namespace Go.Proofs.YtknackfmepkiaaaGreatDoor
open Go.RowKit Rep


set_option maxRecDepth 100000 in
set_option maxHeartbeats 32000000 in
theorem smT3 {s0 s1 s2 s3 s4 s5 s6 s7 s9 s10 s12 s14 s15 s16 s17 s18 s19 s20 s21 s22 s23 s24 s25 s26 s27 s28 s29 s30 s31 s32 s33 s34 s35 s36 s37 s38 s39 s40 s41 s42 s43 s44 s45 s46 s47 s48 s49 s50 s51 s52 s53 s54 s55 s56 s57 s58 s59 s60 s61 s62 s63 s64 s65 s66 s67 s68 s69 s70 s71 s72 s73 s74 s75 s76 s77 s78 s79 s80 s81 s82 s83 s84 s85 s86 s87 s88 s89 s90 s91 s92 s93 s94 s95 s96 s97 s98 s99 s100 s101 s102 s103 s104 s105 s106 s107 s108 s109 s110 s111 s112 s113 s114 s115 s116 s117 s118 s119 s120 s121 s122 s123 : Value} {b gp gt : Nat} {xs us ys vs es : Bool} {xa xb ua ub ya yb va vb ea eb : Option Addr} {xl xc xk xe ul uc uk ue yl yc yk ye vl vc vk ve el ec ek ee : Nat} {w12 : World} {p : PQ} {r : Rat} (HRB12 : Hid (Room b w12 w12)) (HRD12 : Hid (Room b w12 w12.drew)) (HBB12 : Hid (b < w12.heap.size))
    (HK : Hid (∀ W, Room b w12 W → (W.cell? ⟨gp, 0, none⟩ = some (.bool xs) ∧ W.cell? ⟨gp, 1, none⟩ = some (.slice xa xl xc) ∧ W.cell? ⟨gp, 2, none⟩ = some (.slice xb xk xe) ∧ W.cell? ⟨gp, 3, none⟩ = some (.bool us) ∧ W.cell? ⟨gp, 4, none⟩ = some (.slice ua ul uc) ∧ W.cell? ⟨gp, 5, none⟩ = some (.slice ub uk ue) ∧ W.cell? ⟨gp, 6, none⟩ = some (.bool ys) ∧ W.cell? ⟨gp, 7, none⟩ = some (.slice ya yl yc) ∧ W.cell? ⟨gp, 8, none⟩ = some (.slice yb yk ye) ∧ W.cell? ⟨gp, 9, none⟩ = some (.bool vs) ∧ W.cell? ⟨gp, 10, none⟩ = some (.slice va vl vc) ∧ W.cell? ⟨gp, 11, none⟩ = some (.slice vb vk ve) ∧ W.cell? ⟨gt, 0, none⟩ = some (.bool es) ∧ W.cell? ⟨gt, 1, none⟩ = some (.slice ea el ec) ∧ W.cell? ⟨gt, 2, none⟩ = some (.slice eb ek ee))))
    (HA1 : Hid (∀ W, Room b w12 W → Calls Tryz.prog 17 #[.pointer (some ⟨b, 0, none⟩), .agg #[.bool xs, .slice xa xl xc, .slice xb xk xe, .bool us, .slice ua ul uc, .slice ub uk ue], .agg #[.bool es, .slice ea el ec, .slice eb ek ee]] W (GotB b W (p.a + p.b * r))))
    (HA2 : Hid (∀ W, Room b w12 W → Calls Tryz.prog 17 #[.pointer (some ⟨b, 0, none⟩), .agg #[.bool ys, .slice ya yl yc, .slice yb yk ye, .bool vs, .slice va vl vc, .slice vb vk ve], .agg #[.bool es, .slice ea el ec, .slice eb ek ee]] W (GotB b W (p.e + p.f * r)))) :
    Code.wp Tryz.prog (Code.region 23 #[{ dst := some 80, op := Op.move (Operand.tmp 8), type := 43, pos := "law.go:77", after := #[], guard := none }, { dst := some 81, op := Op.indexAddr 33 (Operand.tmp 13) (Operand.const (Value.int IntKind.i64 0)), type := 0, pos := "law.go:77", after := #[], guard := none }, { dst := some 82, op := Op.load 32 (Operand.tmp 81), type := 32, pos := "law.go:77", after := #[{ on := 1, ground := Ground.data }], guard := none }, { dst := some 83, op := Op.load 30 (Operand.tmp 11), type := 30, pos := "law.go:77", after := #[], guard := none }, { dst := some 84, op := Op.call { callee := Callee.value (Operand.func 17), args := #[Operand.tmp 80, Operand.tmp 82, Operand.tmp 83], argTypes := #[43, 32, 30] }, type := 30, pos := "law.go:77", after := #[{ on := 0, ground := Ground.data }, { on := 2, ground := Ground.data }, { on := 3, ground := Ground.data }], guard := none }, { dst := some 85, op := Op.move (Operand.tmp 8), type := 43, pos := "law.go:77", after := #[], guard := none }, { dst := some 86, op := Op.indexAddr 33 (Operand.tmp 13) (Operand.const (Value.int IntKind.i64 1)), type := 0, pos := "law.go:77", after := #[], guard := none }, { dst := some 87, op := Op.load 32 (Operand.tmp 86), type := 32, pos := "law.go:77", after := #[{ on := 6, ground := Ground.data }], guard := none }, { dst := some 88, op := Op.load 30 (Operand.tmp 11), type := 30, pos := "law.go:77", after := #[], guard := none }, { dst := some 89, op := Op.call { callee := Callee.value (Operand.func 17), args := #[Operand.tmp 85, Operand.tmp 87, Operand.tmp 88], argTypes := #[43, 32, 30] }, type := 30, pos := "law.go:77", after := #[{ on := 5, ground := Ground.data }, { on := 7, ground := Ground.data }, { on := 8, ground := Ground.data }, { on := 4, ground := Ground.chain }], guard := none }, { dst := some 14, op := Op.alloc 30, type := 0, pos := "law.go:77", after := #[], guard := none }, { dst := some 15, op := Op.alloc 30, type := 0, pos := "law.go:77", after := #[], guard := none }, { dst := none, op := Op.store 30 (Operand.tmp 14) (Operand.tmp 84), type := 0, pos := "law.go:77", after := #[{ on := 10, ground := Ground.data }, { on := 4, ground := Ground.data }, { on := 9, ground := Ground.chain }, { on := 0, ground := Ground.phase }, { on := 1, ground := Ground.phase }, { on := 2, ground := Ground.phase }, { on := 3, ground := Ground.phase }, { on := 4, ground := Ground.phase }, { on := 5, ground := Ground.textOnly Departure.lateStores }, { on := 6, ground := Ground.textOnly Departure.lateStores }, { on := 7, ground := Ground.textOnly Departure.lateStores }, { on := 8, ground := Ground.textOnly Departure.lateStores }, { on := 9, ground := Ground.textOnly Departure.lateStoresUnsure }, { on := 10, ground := Ground.phase }, { on := 11, ground := Ground.phase }], guard := none }, { dst := none, op := Op.store 30 (Operand.tmp 15) (Operand.tmp 89), type := 0, pos := "law.go:77", after := #[{ on := 11, ground := Ground.data }, { on := 9, ground := Ground.data }, { on := 12, ground := Ground.chain }, { on := 0, ground := Ground.phase }, { on := 1, ground := Ground.phase }, { on := 2, ground := Ground.phase }, { on := 3, ground := Ground.phase }, { on := 4, ground := Ground.phase }, { on := 5, ground := Ground.phase }, { on := 6, ground := Ground.phase }, { on := 7, ground := Ground.phase }, { on := 8, ground := Ground.phase }, { on := 9, ground := Ground.phase }, { on := 10, ground := Ground.phase }, { on := 11, ground := Ground.phase }, { on := 12, ground := Ground.phase }], guard := none }] true) (OnlyEx (fun i : Nat × Nat × RawR × RawR => puts { tmps := #[s0, s1, s2, s3, s4, s5, s6, s7, .pointer (some ⟨b, 0, none⟩), s9, s10, .pointer (some ⟨gt, 0, none⟩), s12, .pointer (some ⟨gp, 0, none⟩), s14, s15, s16, s17, s18, s19, s20, s21, s22, s23, s24, s25, s26, s27, s28, s29, s30, s31, s32, s33, s34, s35, s36, s37, s38, s39, s40, s41, s42, s43, s44, s45, s46, s47, s48, s49, s50, s51, s52, s53, s54, s55, s56, s57, s58, s59, s60, s61, s62, s63, s64, s65, s66, s67, s68, s69, s70, s71, s72, s73, s74, s75, s76, s77, s78, s79, s80, s81, s82, s83, s84, s85, s86, s87, s88, s89, s90, s91, s92, s93, s94, s95, s96, s97, s98, s99, s100, s101, s102, s103, s104, s105, s106, s107, s108, s109, s110, s111, s112, s113, s114, s115, s116, s117, s118, s119, s120, s121, s122, s123], defers := [] } [(80, .pointer (some ⟨b, 0, none⟩)), (81, .pointer (some ⟨gp, 0, none⟩)), (82, .agg #[.bool xs, .slice xa xl xc, .slice xb xk xe, .bool us, .slice ua ul uc, .slice ub uk ue]), (83, .agg #[.bool es, .slice ea el ec, .slice eb ek ee]), (84, .agg #[.bool i.2.2.1.1, .slice i.2.2.1.2.1.1 i.2.2.1.2.1.2.1 i.2.2.1.2.1.2.2, .slice i.2.2.1.2.2.1 i.2.2.1.2.2.2.1 i.2.2.1.2.2.2.2]), (85, .pointer (some ⟨b, 0, none⟩)), (86, .pointer (some ⟨gp, 6, none⟩)), (87, .agg #[.bool ys, .slice ya yl yc, .slice yb yk ye, .bool vs, .slice va vl vc, .slice vb vk ve]), (88, .agg #[.bool es, .slice ea el ec, .slice eb ek ee]), (89, .agg #[.bool i.2.2.2.1, .slice i.2.2.2.2.1.1 i.2.2.2.2.1.2.1 i.2.2.2.2.1.2.2, .slice i.2.2.2.2.2.1 i.2.2.2.2.2.2.1 i.2.2.2.2.2.2.2]), (14, .pointer (some ⟨i.1, 0, none⟩)), (15, .pointer (some ⟨i.2.1, 0, none⟩))]) (M2At b w12 (p.a + p.b * r) (p.e + p.f * r))) { tmps := #[s0, s1, s2, s3, s4, s5, s6, s7, .pointer (some ⟨b, 0, none⟩), s9, s10, .pointer (some ⟨gt, 0, none⟩), s12, .pointer (some ⟨gp, 0, none⟩), s14, s15, s16, s17, s18, s19, s20, s21, s22, s23, s24, s25, s26, s27, s28, s29, s30, s31, s32, s33, s34, s35, s36, s37, s38, s39, s40, s41, s42, s43, s44, s45, s46, s47, s48, s49, s50, s51, s52, s53, s54, s55, s56, s57, s58, s59, s60, s61, s62, s63, s64, s65, s66, s67, s68, s69, s70, s71, s72, s73, s74, s75, s76, s77, s78, s79, s80, s81, s82, s83, s84, s85, s86, s87, s88, s89, s90, s91, s92, s93, s94, s95, s96, s97, s98, s99, s100, s101, s102, s103, s104, s105, s106, s107, s108, s109, s110, s111, s112, s113, s114, s115, s116, s117, s118, s119, s120, s121, s122, s123], defers := [] } w12 := by
  obtain ⟨k0, k1, k2, k3, k4, k5, k6, k7, k8, k9, k10, k11, k12, k13, k14⟩ := HK.out w12 HRB12.out
  refine wp_region_held_drew (S := (fun w' => w'.cell? ⟨gp, 0, none⟩ = some (.bool xs) ∧ w'.cell? ⟨gp, 1, none⟩ = some (.slice xa xl xc) ∧ w'.cell? ⟨gp, 2, none⟩ = some (.slice xb xk xe) ∧ w'.cell? ⟨gp, 3, none⟩ = some (.bool us) ∧ w'.cell? ⟨gp, 4, none⟩ = some (.slice ua ul uc) ∧ w'.cell? ⟨gp, 5, none⟩ = some (.slice ub uk ue) ∧ w'.cell? ⟨gp, 6, none⟩ = some (.bool ys) ∧ w'.cell? ⟨gp, 7, none⟩ = some (.slice ya yl yc) ∧ w'.cell? ⟨gp, 8, none⟩ = some (.slice yb yk ye) ∧ w'.cell? ⟨gp, 9, none⟩ = some (.bool vs) ∧ w'.cell? ⟨gp, 10, none⟩ = some (.slice va vl vc) ∧ w'.cell? ⟨gp, 11, none⟩ = some (.slice vb vk ve) ∧ w'.cell? ⟨gt, 0, none⟩ = some (.bool es) ∧ w'.cell? ⟨gt, 1, none⟩ = some (.slice ea el ec) ∧ w'.cell? ⟨gt, 2, none⟩ = some (.slice eb ek ee))) (by kernel_rfl) ?_ (fun hHeld => ?_)
  · exact HK.out _ HRD12.out
  refine wpAnyH_take (i := 0) (v := ?_) (by rfl) (by kernel_rfl) (by kernel_rfl) (by kernel_rfl) (by exact fun _ _ _ h => h) (Or.inl ⟨by rfl, ?_⟩) hHeld ?_
  rotate_left 1
  · intro w' hSw
    go_simp
    try with_reducible rfl
  try simp only [Act.put, List.setIfInBounds_toArray, List.set_cons_zero, List.set_cons_succ, List.getElem_toArray, List.getElem_cons_zero, List.getElem_cons_succ]
  refine wpAnyH_take (i := 1) (v := ?_) (by rfl) (by kernel_rfl) (by kernel_rfl) (by kernel_rfl) (by exact fun _ _ _ h => h) (Or.inl ⟨by rfl, ?_⟩) hHeld ?_
  rotate_left 1
  · intro w' hSw
    go_simp
    try with_reducible rfl
  try simp only [Act.put, List.setIfInBounds_toArray, List.set_cons_zero, List.set_cons_succ, List.getElem_toArray, List.getElem_cons_zero, List.getElem_cons_succ]
  refine wpAnyH_take (i := 2) (v := ?_) (by rfl) (by kernel_rfl) (by kernel_rfl) (by kernel_rfl) (by exact fun _ _ _ h => h) (Or.inl ⟨by rfl, ?_⟩) hHeld ?_
  rotate_left 1
  · intro w' hSw
    go_simp
    try with_reducible rfl
  try simp only [Act.put, List.setIfInBounds_toArray, List.set_cons_zero, List.set_cons_succ, List.getElem_toArray, List.getElem_cons_zero, List.getElem_cons_succ]
  refine wpAnyH_take (i := 3) (v := ?_) (by rfl) (by kernel_rfl) (by kernel_rfl) (by kernel_rfl) (by exact fun _ _ _ h => h) (Or.inl ⟨by rfl, ?_⟩) hHeld ?_
  rotate_left 1
  · intro w' hSw
    go_simp
    try with_reducible rfl
  try simp only [Act.put, List.setIfInBounds_toArray, List.set_cons_zero, List.set_cons_succ, List.getElem_toArray, List.getElem_cons_zero, List.getElem_cons_succ]
  refine wpAnyH_take (i := 5) (v := ?_) (by rfl) (by kernel_rfl) (by kernel_rfl) (by kernel_rfl) (by exact fun _ _ _ h => h) (Or.inl ⟨by rfl, ?_⟩) hHeld ?_
  rotate_left 1
  · intro w' hSw
    go_simp
    try with_reducible rfl
  try simp only [Act.put, List.setIfInBounds_toArray, List.set_cons_zero, List.set_cons_succ, List.getElem_toArray, List.getElem_cons_zero, List.getElem_cons_succ]
  refine wpAnyH_take (i := 6) (v := ?_) (by rfl) (by kernel_rfl) (by kernel_rfl) (by kernel_rfl) (by exact fun _ _ _ h => h) (Or.inl ⟨by rfl, ?_⟩) hHeld ?_
  rotate_left 1
  · intro w' hSw
    go_simp
    try with_reducible rfl
  try simp only [Act.put, List.setIfInBounds_toArray, List.set_cons_zero, List.set_cons_succ, List.getElem_toArray, List.getElem_cons_zero, List.getElem_cons_succ]
  refine wpAnyH_take (i := 7) (v := ?_) (by rfl) (by kernel_rfl) (by kernel_rfl) (by kernel_rfl) (by exact fun _ _ _ h => h) (Or.inl ⟨by rfl, ?_⟩) hHeld ?_
  rotate_left 1
  · intro w' hSw
    go_simp
    try with_reducible rfl
  try simp only [Act.put, List.setIfInBounds_toArray, List.set_cons_zero, List.set_cons_succ, List.getElem_toArray, List.getElem_cons_zero, List.getElem_cons_succ]
  refine wpAnyH_take (i := 8) (v := ?_) (by rfl) (by kernel_rfl) (by kernel_rfl) (by kernel_rfl) (by exact fun _ _ _ h => h) (Or.inl ⟨by rfl, ?_⟩) hHeld ?_
  rotate_left 1
  · intro w' hSw
    go_simp
    try with_reducible rfl
  try simp only [Act.put, List.setIfInBounds_toArray, List.set_cons_zero, List.set_cons_succ, List.getElem_toArray, List.getElem_cons_zero, List.getElem_cons_succ]
  refine wpAnyH_ready (rs := [4, 10, 11]) (by kernel_rfl) (by simp) ?_
  refine AllReadyH.cons (by rfl) (fun K hK => ?_) ?_
  · go_simp
    with_reducible refine (HA1.out _ HRD12.out).mono ?_
    rintro e w401 ⟨f1s, f1a, f1l, f1c, f1b, f1k, f1e, rfl, HS1, V1⟩
    have HR1 := Lib.hid (HRD12.out.trans HS1.out)
    clear hHeld
    refine hK.out _ _ ?_ (fun hHeld => ?_)
    · exact HK.out _ HR1.out
    clear hK K
    try simp only [Act.put, List.setIfInBounds_toArray, List.set_cons_zero, List.set_cons_succ, List.getElem_toArray, List.getElem_cons_zero, List.getElem_cons_succ]
    refine wpAnyH_ready (rs := [9, 10, 11]) (by kernel_rfl) (by simp) ?_
    refine AllReadyH.cons (by rfl) (fun K hK => ?_) ?_
    · go_simp
      with_reducible refine (HA2.out _ HR1.out).mono ?_
      rintro e w402 ⟨h2s, h2a, h2l, h2c, h2b, h2k, h2e, rfl, HS2, V2⟩
      have HR2 := Lib.hid (HR1.out.trans HS2.out)
      have V2_0 := Lib.hid (HS2.out.vq HR1.out.bench V1.out)
      clear hHeld
      refine hK.out _ _ ?_ (fun hHeld => ?_)
      · exact HK.out _ HR2.out
      clear hK K
      try simp only [Act.put, List.setIfInBounds_toArray, List.set_cons_zero, List.set_cons_succ, List.getElem_toArray, List.getElem_cons_zero, List.getElem_cons_succ]
      refine wpAnyH_ready (rs := [10, 11]) (by kernel_rfl) (by simp) ?_
      refine AllReadyH.cons (by rfl) (fun K hK => ?_) ?_
      · go_simp
        refine hK.out _ _ ?_ (fun hHeld => ?_)
        · exact HK.out _ (HR2.out.alloc _)
        clear hK K
        try simp only [Act.put, List.setIfInBounds_toArray, List.set_cons_zero, List.set_cons_succ, List.getElem_toArray, List.getElem_cons_zero, List.getElem_cons_succ]
        refine wpAnyH_ready (rs := [11]) (by kernel_rfl) (by simp) ?_
        refine AllReadyH.cons (by rfl) (fun K hK => ?_) ?_
        · go_simp
          refine hK.out _ _ ?_ (fun hHeld => ?_)
          · exact HK.out _ ((HR2.out.alloc _).alloc _)
          clear hK K
          try simp only [Act.put, List.setIfInBounds_toArray, List.set_cons_zero, List.set_cons_succ, List.getElem_toArray, List.getElem_cons_zero, List.getElem_cons_succ]
          obtain ⟨k0, k1, k2, k3, k4, k5, k6, k7, k8, k9, k10, k11, k12, k13, k14⟩ := HK.out _ HR2.out
          have hf := M2At.end0a (x := (f1s, (f1a, f1l, f1c), (f1b, f1k, f1e))) (y := (h2s, (h2a, h2l, h2c), (h2b, h2k, h2e))) HR2.out V2_0.out V2.out
          try dsimp only [Go.Proofs.YtknackfmepkiaaaGreatDoor.set3] at hf
          have HF := Lib.hid hf
          clear hf
          refine wpAnyH_ready (rs := [12]) (by kernel_rfl) (by simp) ?_
          refine AllReadyH.cons (by rfl) (fun K hK => ?_) AllReadyH.nil
          go_simp
          refine hK.out _ _ ?_ (fun hHeld => ?_)
          · first | with_reducible exact HK.out _ ((HR2.out.alloc _).alloc _) | go_keep
          clear hK K
          try simp only [Act.put, List.setIfInBounds_toArray, List.set_cons_zero, List.set_cons_succ, List.getElem_toArray, List.getElem_cons_zero, List.getElem_cons_succ]
          refine wpAnyH_ready (rs := [13]) (by kernel_rfl) (by simp) ?_
          refine AllReadyH.cons (by rfl) (fun K hK => ?_) AllReadyH.nil
          go_simp
          refine hK.out _ _ ?_ (fun hHeld => ?_)
          · first | with_reducible exact HK.out _ HF.out.room | go_keep
          clear hK K
          try simp only [Act.put, List.setIfInBounds_toArray, List.set_cons_zero, List.set_cons_succ, List.getElem_toArray, List.getElem_cons_zero, List.getElem_cons_succ]
          refine wpAnyH_done (by kernel_rfl) ?_ _
          refine OnlyEx.mk' ?_
          with_reducible refine ⟨_, ?_, HF.out⟩
          simp only [puts, Act.put, List.setIfInBounds_toArray, List.set_cons_zero, List.set_cons_succ]
        exact AllReadyH.nil
      refine AllReadyH.cons (by rfl) (fun K hK => ?_) ?_
      · go_simp
        refine hK.out _ _ ?_ (fun hHeld => ?_)
        · exact HK.out _ (HR2.out.alloc _)
        clear hK K
        try simp only [Act.put, List.setIfInBounds_toArray, List.set_cons_zero, List.set_cons_succ, List.getElem_toArray, List.getElem_cons_zero, List.getElem_cons_succ]
        refine wpAnyH_ready (rs := [10]) (by kernel_rfl) (by simp) ?_
        refine AllReadyH.cons (by rfl) (fun K hK => ?_) ?_
        · go_simp
          refine hK.out _ _ ?_ (fun hHeld => ?_)
          · exact HK.out _ ((HR2.out.alloc _).alloc _)
          clear hK K
          try simp only [Act.put, List.setIfInBounds_toArray, List.set_cons_zero, List.set_cons_succ, List.getElem_toArray, List.getElem_cons_zero, List.getElem_cons_succ]
          obtain ⟨k0, k1, k2, k3, k4, k5, k6, k7, k8, k9, k10, k11, k12, k13, k14⟩ := HK.out _ HR2.out
          have hf := M2At.end0b (x := (f1s, (f1a, f1l, f1c), (f1b, f1k, f1e))) (y := (h2s, (h2a, h2l, h2c), (h2b, h2k, h2e))) HR2.out V2_0.out V2.out
          try dsimp only [Go.Proofs.YtknackfmepkiaaaGreatDoor.set3] at hf
          have HF := Lib.hid hf
          clear hf
          refine wpAnyH_ready (rs := [12]) (by kernel_rfl) (by simp) ?_
          refine AllReadyH.cons (by rfl) (fun K hK => ?_) AllReadyH.nil
          go_simp
          refine hK.out _ _ ?_ (fun hHeld => ?_)
          · first | with_reducible exact HK.out _ ((HR2.out.alloc _).alloc _) | go_keep
          clear hK K
          try simp only [Act.put, List.setIfInBounds_toArray, List.set_cons_zero, List.set_cons_succ, List.getElem_toArray, List.getElem_cons_zero, List.getElem_cons_succ]
          refine wpAnyH_ready (rs := [13]) (by kernel_rfl) (by simp) ?_
          refine AllReadyH.cons (by rfl) (fun K hK => ?_) AllReadyH.nil
          go_simp
          refine hK.out _ _ ?_ (fun hHeld => ?_)
          · first | with_reducible exact HK.out _ HF.out.room | go_keep
          clear hK K
          try simp only [Act.put, List.setIfInBounds_toArray, List.set_cons_zero, List.set_cons_succ, List.getElem_toArray, List.getElem_cons_zero, List.getElem_cons_succ]
          refine wpAnyH_done (by kernel_rfl) ?_ _
          refine OnlyEx.mk' ?_
          with_reducible refine ⟨_, ?_, HF.out⟩
          simp only [puts, Act.put, List.setIfInBounds_toArray, List.set_cons_zero, List.set_cons_succ]
        exact AllReadyH.nil
      exact AllReadyH.nil
    refine AllReadyH.cons (by rfl) (fun K hK => ?_) ?_
    · go_simp
      have HR7 := Lib.hid (HR1.out.alloc (.cells #[.bool false, .slice none 0 0, .slice none 0 0] 30))
      have V7_0 := Lib.hid (V1.out.alloc (.cells #[.bool false, .slice none 0 0, .slice none 0 0] 30))
      have B7 : Hid (Blank (w401.alloc (.cells #[.bool false, .slice none 0 0, .slice none 0 0] 30)) (w401.heap.size)) := Lib.hid (heap_alloc_new _ _)
      refine hK.out _ _ ?_ (fun hHeld => ?_)
      · exact HK.out _ HR7.out
      clear hK K
      try simp only [Act.put, List.setIfInBounds_toArray, List.set_cons_zero, List.set_cons_succ, List.getElem_toArray, List.getElem_cons_zero, List.getElem_cons_succ]
      refine wpAnyH_ready (rs := [9, 11]) (by kernel_rfl) (by simp) ?_
      refine AllReadyH.cons (by rfl) (fun K hK => ?_) ?_
      · go_simp
        with_reducible refine (HA2.out _ HR7.out).mono ?_
        rintro e w408 ⟨h8s, h8a, h8l, h8c, h8b, h8k, h8e, rfl, HS8, V8⟩
        have HR8 := Lib.hid (HR7.out.trans HS8.out)
        have V8_0 := Lib.hid (HS8.out.vq HR7.out.bench V7_0.out)
        have B8_0 := Lib.hid (B7.out.room HS8.out (by have := HBB12.out; have := HR1.out.g.size;  omega))
        clear hHeld
        refine hK.out _ _ ?_ (fun hHeld => ?_)
        · exact HK.out _ HR8.out
        clear hK K
        try simp only [Act.put, List.setIfInBounds_toArray, List.set_cons_zero, List.set_cons_succ, List.getElem_toArray, List.getElem_cons_zero, List.getElem_cons_succ]
        refine wpAnyH_ready (rs := [11]) (by kernel_rfl) (by simp) ?_
        refine AllReadyH.cons (by rfl) (fun K hK => ?_) ?_
        · go_simp
          refine hK.out _ _ ?_ (fun hHeld => ?_)
          · exact HK.out _ (HR8.out.alloc _)
          clear hK K
          try simp only [Act.put, List.setIfInBounds_toArray, List.set_cons_zero, List.set_cons_succ, List.getElem_toArray, List.getElem_cons_zero, List.getElem_cons_succ]
          obtain ⟨k0, k1, k2, k3, k4, k5, k6, k7, k8, k9, k10, k11, k12, k13, k14⟩ := HK.out _ HR8.out
          have hf := M2At.end1a (x := (f1s, (f1a, f1l, f1c), (f1b, f1k, f1e))) (y := (h8s, (h8a, h8l, h8c), (h8b, h8k, h8e))) HR8.out V8_0.out V8.out B8_0.out (by have := HR1.out.g.size; omega) (by have := HBB12.out; have := HR1.out.g.size; omega)
          obtain ⟨m0, m1, m2, n0, n1, n2⟩ := B8_0.out.cells
          have hgw : w401.heap.size ≠ w408.heap.size := by have := (Array.getElem?_eq_some_iff.1 B8_0.out).1; omega
          have hgw2 := Ne.symm hgw
          have hgl := (Array.getElem?_eq_some_iff.1 B8_0.out).1
          have hm := HR8.out.set3 B8_0.out.no (by have := HR1.out.g.size; omega) (by have := HBB12.out; have := HR1.out.g.size; omega) f1s (.slice f1a f1l f1c) (.slice f1b f1k f1e)
          dsimp only [Go.Proofs.YtknackfmepkiaaaGreatDoor.set3] at hm
          have HM := Lib.hid hm
          clear hm
          try dsimp only [Go.Proofs.YtknackfmepkiaaaGreatDoor.set3] at hf
          have HF := Lib.hid hf
          clear hf
          refine wpAnyH_ready (rs := [12]) (by kernel_rfl) (by simp) ?_
          refine AllReadyH.cons (by rfl) (fun K hK => ?_) AllReadyH.nil
          go_simp
          refine hK.out _ _ ?_ (fun hHeld => ?_)
          · first | with_reducible exact HK.out _ (HM.out.alloc _) | go_keep
          clear hK K
          try simp only [Act.put, List.setIfInBounds_toArray, List.set_cons_zero, List.set_cons_succ, List.getElem_toArray, List.getElem_cons_zero, List.getElem_cons_succ]
          refine wpAnyH_ready (rs := [13]) (by kernel_rfl) (by simp) ?_
          refine AllReadyH.cons (by rfl) (fun K hK => ?_) AllReadyH.nil
          go_simp
          refine hK.out _ _ ?_ (fun hHeld => ?_)
          · first | with_reducible exact HK.out _ HF.out.room | go_keep
          clear hK K
          try simp only [Act.put, List.setIfInBounds_toArray, List.set_cons_zero, List.set_cons_succ, List.getElem_toArray, List.getElem_cons_zero, List.getElem_cons_succ]
          refine wpAnyH_done (by kernel_rfl) ?_ _
          refine OnlyEx.mk' ?_
          with_reducible refine ⟨_, ?_, HF.out⟩
          simp only [puts, Act.put, List.setIfInBounds_toArray, List.set_cons_zero, List.set_cons_succ]
        exact AllReadyH.nil
      refine AllReadyH.cons (by rfl) (fun K hK => ?_) ?_
      · go_simp
        have HR10 := Lib.hid (HR7.out.alloc (.cells #[.bool false, .slice none 0 0, .slice none 0 0] 30))
        have V10_0 := Lib.hid (V7_0.out.alloc (.cells #[.bool false, .slice none 0 0, .slice none 0 0] 30))
        have B10_0 := Lib.hid (B7.out.alloc (.cells #[.bool false, .slice none 0 0, .slice none 0 0] 30))
        have B10 : Hid (Blank ((w401.alloc (.cells #[.bool false, .slice none 0 0, .slice none 0 0] 30)).alloc (.cells #[.bool false, .slice none 0 0, .slice none 0 0] 30)) (w401.heap.size + 1)) := Lib.hid (heap_alloc_scnd _ _ _)
        refine hK.out _ _ ?_ (fun hHeld => ?_)
        · exact HK.out _ HR10.out
        clear hK K
        try simp only [Act.put, List.setIfInBounds_toArray, List.set_cons_zero, List.set_cons_succ, List.getElem_toArray, List.getElem_cons_zero, List.getElem_cons_succ]
        refine wpAnyH_ready (rs := [9]) (by kernel_rfl) (by simp) ?_
        refine AllReadyH.cons (by rfl) (fun K hK => ?_) ?_
        · go_simp
          with_reducible refine (HA2.out _ HR10.out).mono ?_
          rintro e w411 ⟨h11s, h11a, h11l, h11c, h11b, h11k, h11e, rfl, HS11, V11⟩
          have HR11 := Lib.hid (HR10.out.trans HS11.out)
          have V11_0 := Lib.hid (HS11.out.vq HR10.out.bench V10_0.out)
          have B11_0 := Lib.hid (B10_0.out.room HS11.out (by have := HBB12.out; have := HR1.out.g.size;  omega))
          have B11_1 := Lib.hid (B10.out.room HS11.out (by have := HBB12.out; have := HR1.out.g.size;  omega))
          clear hHeld
          refine hK.out _ _ ?_ (fun hHeld => ?_)
          · exact HK.out _ HR11.out
          clear hK K
          try simp only [Act.put, List.setIfInBounds_toArray, List.set_cons_zero, List.set_cons_succ, List.getElem_toArray, List.getElem_cons_zero, List.getElem_cons_succ]
          obtain ⟨k0, k1, k2, k3, k4, k5, k6, k7, k8, k9, k10, k11, k12, k13, k14⟩ := HK.out _ HR11.out
          have hb01 : w401.heap.size ≠ w401.heap.size + 1 := by have := HR1.out.g.size; have := (Array.getElem?_eq_some_iff.1 B11_0.out).1; have := (Array.getElem?_eq_some_iff.1 B11_1.out).1; omega
          have hb10 := Ne.symm hb01
          have hf := M2At.end2 (x := (f1s, (f1a, f1l, f1c), (f1b, f1k, f1e))) (y := (h11s, (h11a, h11l, h11c), (h11b, h11k, h11e))) HR11.out V11_0.out V11.out B11_0.out B11_1.out hb01 (by have := HR1.out.g.size; omega) (by have := HR1.out.g.size; omega) (by have := HBB12.out; have := HR1.out.g.size; omega) (by have := HBB12.out; have := HR1.out.g.size; omega)
          obtain ⟨m0, m1, m2, n0, n1, n2⟩ := B11_0.out.cells
          obtain ⟨o0, o1, o2, q0, q1, q2⟩ := B11_1.out.cells
          have hm := HR11.out.set3 B11_0.out.no (by have := HR1.out.g.size; omega) (by have := HBB12.out; have := HR1.out.g.size; omega) f1s (.slice f1a f1l f1c) (.slice f1b f1k f1e)
          dsimp only [Go.Proofs.YtknackfmepkiaaaGreatDoor.set3] at hm
          have HM := Lib.hid hm
          clear hm
          try dsimp only [Go.Proofs.YtknackfmepkiaaaGreatDoor.set3] at hf
          have HF := Lib.hid hf
          clear hf
          refine wpAnyH_ready (rs := [12]) (by kernel_rfl) (by simp) ?_
          refine AllReadyH.cons (by rfl) (fun K hK => ?_) AllReadyH.nil
          go_simp
          refine hK.out _ _ ?_ (fun hHeld => ?_)
          · first | with_reducible exact HK.out _ HM.out | go_keep
          clear hK K
          try simp only [Act.put, List.setIfInBounds_toArray, List.set_cons_zero, List.set_cons_succ, List.getElem_toArray, List.getElem_cons_zero, List.getElem_cons_succ]
          refine wpAnyH_ready (rs := [13]) (by kernel_rfl) (by simp) ?_
          refine AllReadyH.cons (by rfl) (fun K hK => ?_) AllReadyH.nil
          go_simp
          refine hK.out _ _ ?_ (fun hHeld => ?_)
          · first | with_reducible exact HK.out _ HF.out.room | go_keep
          clear hK K
          try simp only [Act.put, List.setIfInBounds_toArray, List.set_cons_zero, List.set_cons_succ, List.getElem_toArray, List.getElem_cons_zero, List.getElem_cons_succ]
          refine wpAnyH_done (by kernel_rfl) ?_ _
          refine OnlyEx.mk' ?_
          with_reducible refine ⟨_, ?_, HF.out⟩
          simp only [puts, Act.put, List.setIfInBounds_toArray, List.set_cons_zero, List.set_cons_succ]
        exact AllReadyH.nil
      exact AllReadyH.nil
    refine AllReadyH.cons (by rfl) (fun K hK => ?_) ?_
    · go_simp
      have HR12 := Lib.hid (HR1.out.alloc (.cells #[.bool false, .slice none 0 0, .slice none 0 0] 30))
      have V12_0 := Lib.hid (V1.out.alloc (.cells #[.bool false, .slice none 0 0, .slice none 0 0] 30))
      have B12 : Hid (Blank (w401.alloc (.cells #[.bool false, .slice none 0 0, .slice none 0 0] 30)) (w401.heap.size)) := Lib.hid (heap_alloc_new _ _)
      refine hK.out _ _ ?_ (fun hHeld => ?_)
      · exact HK.out _ HR12.out
      clear hK K
      try simp only [Act.put, List.setIfInBounds_toArray, List.set_cons_zero, List.set_cons_succ, List.getElem_toArray, List.getElem_cons_zero, List.getElem_cons_succ]
      refine wpAnyH_ready (rs := [9, 10]) (by kernel_rfl) (by simp) ?_
      refine AllReadyH.cons (by rfl) (fun K hK => ?_) ?_
      · go_simp
        with_reducible refine (HA2.out _ HR12.out).mono ?_
        rintro e w413 ⟨h13s, h13a, h13l, h13c, h13b, h13k, h13e, rfl, HS13, V13⟩
        have HR13 := Lib.hid (HR12.out.trans HS13.out)
        have V13_0 := Lib.hid (HS13.out.vq HR12.out.bench V12_0.out)
        have B13_1 := Lib.hid (B12.out.room HS13.out (by have := HBB12.out; have := HR1.out.g.size;  omega))
        clear hHeld
        refine hK.out _ _ ?_ (fun hHeld => ?_)
        · exact HK.out _ HR13.out
        clear hK K
        try simp only [Act.put, List.setIfInBounds_toArray, List.set_cons_zero, List.set_cons_succ, List.getElem_toArray, List.getElem_cons_zero, List.getElem_cons_succ]
        refine wpAnyH_ready (rs := [10]) (by kernel_rfl) (by simp) ?_
        refine AllReadyH.cons (by rfl) (fun K hK => ?_) ?_
        · go_simp
          refine hK.out _ _ ?_ (fun hHeld => ?_)
          · exact HK.out _ (HR13.out.alloc _)
          clear hK K
          try simp only [Act.put, List.setIfInBounds_toArray, List.set_cons_zero, List.set_cons_succ, List.getElem_toArray, List.getElem_cons_zero, List.getElem_cons_succ]
          obtain ⟨k0, k1, k2, k3, k4, k5, k6, k7, k8, k9, k10, k11, k12, k13, k14⟩ := HK.out _ HR13.out
          have hf := M2At.end1b (x := (f1s, (f1a, f1l, f1c), (f1b, f1k, f1e))) (y := (h13s, (h13a, h13l, h13c), (h13b, h13k, h13e))) HR13.out V13_0.out V13.out B13_1.out (by have := HR1.out.g.size; omega) (by have := HBB12.out; have := HR1.out.g.size; omega)
          obtain ⟨m0, m1, m2, n0, n1, n2⟩ := B13_1.out.cells
          have hgw : w401.heap.size ≠ w413.heap.size := by have := (Array.getElem?_eq_some_iff.1 B13_1.out).1; omega
          have hgw2 := Ne.symm hgw
          have hgl := (Array.getElem?_eq_some_iff.1 B13_1.out).1
          try dsimp only [Go.Proofs.YtknackfmepkiaaaGreatDoor.set3] at hf
          have HF := Lib.hid hf
          clear hf
          refine wpAnyH_ready (rs := [12]) (by kernel_rfl) (by simp) ?_
          refine AllReadyH.cons (by rfl) (fun K hK => ?_) AllReadyH.nil
          go_simp
          refine hK.out _ _ ?_ (fun hHeld => ?_)
          · first | with_reducible exact HK.out _ (HR13.out.alloc _) | go_keep
          clear hK K
          try simp only [Act.put, List.setIfInBounds_toArray, List.set_cons_zero, List.set_cons_succ, List.getElem_toArray, List.getElem_cons_zero, List.getElem_cons_succ]
          refine wpAnyH_ready (rs := [13]) (by kernel_rfl) (by simp) ?_
          refine AllReadyH.cons (by rfl) (fun K hK => ?_) AllReadyH.nil
          go_simp
          refine hK.out _ _ ?_ (fun hHeld => ?_)
          · first | with_reducible exact HK.out _ HF.out.room | go_keep
          clear hK K
          try simp only [Act.put, List.setIfInBounds_toArray, List.set_cons_zero, List.set_cons_succ, List.getElem_toArray, List.getElem_cons_zero, List.getElem_cons_succ]
          refine wpAnyH_done (by kernel_rfl) ?_ _
          refine OnlyEx.mk' ?_
          with_reducible refine ⟨_, ?_, HF.out⟩
          simp only [puts, Act.put, List.setIfInBounds_toArray, List.set_cons_zero, List.set_cons_succ]
        exact AllReadyH.nil
      refine AllReadyH.cons (by rfl) (fun K hK => ?_) ?_
      · go_simp
        have HR15 := Lib.hid (HR12.out.alloc (.cells #[.bool false, .slice none 0 0, .slice none 0 0] 30))
        have V15_0 := Lib.hid (V12_0.out.alloc (.cells #[.bool false, .slice none 0 0, .slice none 0 0] 30))
        have B15_1 := Lib.hid (B12.out.alloc (.cells #[.bool false, .slice none 0 0, .slice none 0 0] 30))
        have B15 : Hid (Blank ((w401.alloc (.cells #[.bool false, .slice none 0 0, .slice none 0 0] 30)).alloc (.cells #[.bool false, .slice none 0 0, .slice none 0 0] 30)) (w401.heap.size + 1)) := Lib.hid (heap_alloc_scnd _ _ _)
        refine hK.out _ _ ?_ (fun hHeld => ?_)
        · exact HK.out _ HR15.out
        clear hK K
        try simp only [Act.put, List.setIfInBounds_toArray, List.set_cons_zero, List.set_cons_succ, List.getElem_toArray, List.getElem_cons_zero, List.getElem_cons_succ]
        refine wpAnyH_ready (rs := [9]) (by kernel_rfl) (by simp) ?_
        refine AllReadyH.cons (by rfl) (fun K hK => ?_) ?_
        · go_simp
          with_reducible refine (HA2.out _ HR15.out).mono ?_
          rintro e w416 ⟨h16s, h16a, h16l, h16c, h16b, h16k, h16e, rfl, HS16, V16⟩
          have HR16 := Lib.hid (HR15.out.trans HS16.out)
          have V16_0 := Lib.hid (HS16.out.vq HR15.out.bench V15_0.out)
          have B16_1 := Lib.hid (B15_1.out.room HS16.out (by have := HBB12.out; have := HR1.out.g.size;  omega))
          have B16_0 := Lib.hid (B15.out.room HS16.out (by have := HBB12.out; have := HR1.out.g.size;  omega))
          clear hHeld
          refine hK.out _ _ ?_ (fun hHeld => ?_)
          · exact HK.out _ HR16.out
          clear hK K
          try simp only [Act.put, List.setIfInBounds_toArray, List.set_cons_zero, List.set_cons_succ, List.getElem_toArray, List.getElem_cons_zero, List.getElem_cons_succ]
          obtain ⟨k0, k1, k2, k3, k4, k5, k6, k7, k8, k9, k10, k11, k12, k13, k14⟩ := HK.out _ HR16.out
          have hb01 : w401.heap.size + 1 ≠ w401.heap.size := by have := HR1.out.g.size; have := (Array.getElem?_eq_some_iff.1 B16_1.out).1; have := (Array.getElem?_eq_some_iff.1 B16_0.out).1; omega
          have hb10 := Ne.symm hb01
          have hf := M2At.end2 (x := (f1s, (f1a, f1l, f1c), (f1b, f1k, f1e))) (y := (h16s, (h16a, h16l, h16c), (h16b, h16k, h16e))) HR16.out V16_0.out V16.out B16_0.out B16_1.out hb01 (by have := HR1.out.g.size; omega) (by have := HR1.out.g.size; omega) (by have := HBB12.out; have := HR1.out.g.size; omega) (by have := HBB12.out; have := HR1.out.g.size; omega)
          obtain ⟨m0, m1, m2, n0, n1, n2⟩ := B16_0.out.cells
          obtain ⟨o0, o1, o2, q0, q1, q2⟩ := B16_1.out.cells
          have hm := HR16.out.set3 B16_0.out.no (by have := HR1.out.g.size; omega) (by have := HBB12.out; have := HR1.out.g.size; omega) f1s (.slice f1a f1l f1c) (.slice f1b f1k f1e)
          dsimp only [Go.Proofs.YtknackfmepkiaaaGreatDoor.set3] at hm
          have HM := Lib.hid hm
          clear hm
          try dsimp only [Go.Proofs.YtknackfmepkiaaaGreatDoor.set3] at hf
          have HF := Lib.hid hf
          clear hf
          refine wpAnyH_ready (rs := [12]) (by kernel_rfl) (by simp) ?_
          refine AllReadyH.cons (by rfl) (fun K hK => ?_) AllReadyH.nil
          go_simp
          refine hK.out _ _ ?_ (fun hHeld => ?_)
          · first | with_reducible exact HK.out _ HM.out | go_keep
          clear hK K
          try simp only [Act.put, List.setIfInBounds_toArray, List.set_cons_zero, List.set_cons_succ, List.getElem_toArray, List.getElem_cons_zero, List.getElem_cons_succ]
          refine wpAnyH_ready (rs := [13]) (by kernel_rfl) (by simp) ?_
          refine AllReadyH.cons (by rfl) (fun K hK => ?_) AllReadyH.nil
          go_simp
          refine hK.out _ _ ?_ (fun hHeld => ?_)
          · first | with_reducible exact HK.out _ HF.out.room | go_keep
          clear hK K
          try simp only [Act.put, List.setIfInBounds_toArray, List.set_cons_zero, List.set_cons_succ, List.getElem_toArray, List.getElem_cons_zero, List.getElem_cons_succ]
          refine wpAnyH_done (by kernel_rfl) ?_ _
          refine OnlyEx.mk' ?_
          with_reducible refine ⟨_, ?_, HF.out⟩
          simp only [puts, Act.put, List.setIfInBounds_toArray, List.set_cons_zero, List.set_cons_succ]
        exact AllReadyH.nil
      exact AllReadyH.nil
    exact AllReadyH.nil
  refine AllReadyH.cons (by rfl) (fun K hK => ?_) ?_
  · go_simp
    have HR17 := Lib.hid ((show Room b w12 (w12.alloc (.cells #[.bool false, .slice none 0 0, .slice none 0 0] 30)).drew from HRB12.out.kept (Below.drewN' ((Below.refl w12.heap.size w12).alloc (Nat.le_refl _) (.cells #[.bool false, .slice none 0 0, .slice none 0 0] 30)) 1)))
    have B17 : Hid (Blank (w12.alloc (.cells #[.bool false, .slice none 0 0, .slice none 0 0] 30)).drew (w12.heap.size)) := Lib.hid (heap_alloc_new _ _)
    refine hK.out _ _ ?_ (fun hHeld => ?_)
    · exact HK.out _ HR17.out
    clear hK K
    try simp only [Act.put, List.setIfInBounds_toArray, List.set_cons_zero, List.set_cons_succ, List.getElem_toArray, List.getElem_cons_zero, List.getElem_cons_succ]
    refine wpAnyH_ready (rs := [4, 11]) (by kernel_rfl) (by simp) ?_
    refine AllReadyH.cons (by rfl) (fun K hK => ?_) ?_
    · go_simp
      with_reducible refine (HA1.out _ HR17.out).mono ?_
      rintro e w418 ⟨f18s, f18a, f18l, f18c, f18b, f18k, f18e, rfl, HS18, V18⟩
      have HR18 := Lib.hid (HR17.out.trans HS18.out)
      have B18_0 := Lib.hid (B17.out.room HS18.out (by have := HBB12.out;  omega))
      clear hHeld
      refine hK.out _ _ ?_ (fun hHeld => ?_)
      · exact HK.out _ HR18.out
      clear hK K
      try simp only [Act.put, List.setIfInBounds_toArray, List.set_cons_zero, List.set_cons_succ, List.getElem_toArray, List.getElem_cons_zero, List.getElem_cons_succ]
      refine wpAnyH_ready (rs := [9, 11]) (by kernel_rfl) (by simp) ?_
      refine AllReadyH.cons (by rfl) (fun K hK => ?_) ?_
      · go_simp
        with_reducible refine (HA2.out _ HR18.out).mono ?_
        rintro e w419 ⟨h19s, h19a, h19l, h19c, h19b, h19k, h19e, rfl, HS19, V19⟩
        have HR19 := Lib.hid (HR18.out.trans HS19.out)
        have V19_0 := Lib.hid (HS19.out.vq HR18.out.bench V18.out)
        have B19_0 := Lib.hid (B18_0.out.room HS19.out (by have := HBB12.out;  omega))
        clear hHeld
        refine hK.out _ _ ?_ (fun hHeld => ?_)
        · exact HK.out _ HR19.out
        clear hK K
        try simp only [Act.put, List.setIfInBounds_toArray, List.set_cons_zero, List.set_cons_succ, List.getElem_toArray, List.getElem_cons_zero, List.getElem_cons_succ]
        refine wpAnyH_ready (rs := [11]) (by kernel_rfl) (by simp) ?_
        refine AllReadyH.cons (by rfl) (fun K hK => ?_) ?_
        · go_simp
          refine hK.out _ _ ?_ (fun hHeld => ?_)
          · exact HK.out _ (HR19.out.alloc _)
          clear hK K
          try simp only [Act.put, List.setIfInBounds_toArray, List.set_cons_zero, List.set_cons_succ, List.getElem_toArray, List.getElem_cons_zero, List.getElem_cons_succ]
          obtain ⟨k0, k1, k2, k3, k4, k5, k6, k7, k8, k9, k10, k11, k12, k13, k14⟩ := HK.out _ HR19.out
          have hf := M2At.end1a (x := (f18s, (f18a, f18l, f18c), (f18b, f18k, f18e))) (y := (h19s, (h19a, h19l, h19c), (h19b, h19k, h19e))) HR19.out V19_0.out V19.out B19_0.out (by omega) (by have := HBB12.out; omega)
          obtain ⟨m0, m1, m2, n0, n1, n2⟩ := B19_0.out.cells
          have hgw : w12.heap.size ≠ w419.heap.size := by have := (Array.getElem?_eq_some_iff.1 B19_0.out).1; omega
          have hgw2 := Ne.symm hgw
          have hgl := (Array.getElem?_eq_some_iff.1 B19_0.out).1
          have hm := HR19.out.set3 B19_0.out.no (by omega) (by have := HBB12.out; omega) f18s (.slice f18a f18l f18c) (.slice f18b f18k f18e)
          dsimp only [Go.Proofs.YtknackfmepkiaaaGreatDoor.set3] at hm
          have HM := Lib.hid hm
          clear hm
          try dsimp only [Go.Proofs.YtknackfmepkiaaaGreatDoor.set3] at hf
          have HF := Lib.hid hf
          clear hf
          refine wpAnyH_ready (rs := [12]) (by kernel_rfl) (by simp) ?_
          refine AllReadyH.cons (by rfl) (fun K hK => ?_) AllReadyH.nil
          go_simp
          refine hK.out _ _ ?_ (fun hHeld => ?_)
          · first | with_reducible exact HK.out _ (HM.out.alloc _) | go_keep
          clear hK K
          try simp only [Act.put, List.setIfInBounds_toArray, List.set_cons_zero, List.set_cons_succ, List.getElem_toArray, List.getElem_cons_zero, List.getElem_cons_succ]
          refine wpAnyH_ready (rs := [13]) (by kernel_rfl) (by simp) ?_
          refine AllReadyH.cons (by rfl) (fun K hK => ?_) AllReadyH.nil
          go_simp
          refine hK.out _ _ ?_ (fun hHeld => ?_)
          · first | with_reducible exact HK.out _ HF.out.room | go_keep
          clear hK K
          try simp only [Act.put, List.setIfInBounds_toArray, List.set_cons_zero, List.set_cons_succ, List.getElem_toArray, List.getElem_cons_zero, List.getElem_cons_succ]
          refine wpAnyH_done (by kernel_rfl) ?_ _
          refine OnlyEx.mk' ?_
          with_reducible refine ⟨_, ?_, HF.out⟩
          simp only [puts, Act.put, List.setIfInBounds_toArray, List.set_cons_zero, List.set_cons_succ]
        exact AllReadyH.nil
      refine AllReadyH.cons (by rfl) (fun K hK => ?_) ?_
      · go_simp
        have HR21 := Lib.hid (HR18.out.alloc (.cells #[.bool false, .slice none 0 0, .slice none 0 0] 30))
        have V21_0 := Lib.hid (V18.out.alloc (.cells #[.bool false, .slice none 0 0, .slice none 0 0] 30))
        have B21_0 := Lib.hid (B18_0.out.alloc (.cells #[.bool false, .slice none 0 0, .slice none 0 0] 30))
        have B21 : Hid (Blank (w418.alloc (.cells #[.bool false, .slice none 0 0, .slice none 0 0] 30)) (w418.heap.size)) := Lib.hid (heap_alloc_new _ _)
        refine hK.out _ _ ?_ (fun hHeld => ?_)
        · exact HK.out _ HR21.out
        clear hK K
        try simp only [Act.put, List.setIfInBounds_toArray, List.set_cons_zero, List.set_cons_succ, List.getElem_toArray, List.getElem_cons_zero, List.getElem_cons_succ]
        refine wpAnyH_ready (rs := [9]) (by kernel_rfl) (by simp) ?_
        refine AllReadyH.cons (by rfl) (fun K hK => ?_) ?_
        · go_simp
          with_reducible refine (HA2.out _ HR21.out).mono ?_
          rintro e w422 ⟨h22s, h22a, h22l, h22c, h22b, h22k, h22e, rfl, HS22, V22⟩
          have HR22 := Lib.hid (HR21.out.trans HS22.out)
          have V22_0 := Lib.hid (HS22.out.vq HR21.out.bench V21_0.out)
          have B22_0 := Lib.hid (B21_0.out.room HS22.out (by have := HBB12.out; have := HR18.out.g.size;  omega))
          have B22_1 := Lib.hid (B21.out.room HS22.out (by have := HBB12.out; have := HR18.out.g.size;  omega))
          clear hHeld
          refine hK.out _ _ ?_ (fun hHeld => ?_)
          · exact HK.out _ HR22.out
          clear hK K
          try simp only [Act.put, List.setIfInBounds_toArray, List.set_cons_zero, List.set_cons_succ, List.getElem_toArray, List.getElem_cons_zero, List.getElem_cons_succ]
          obtain ⟨k0, k1, k2, k3, k4, k5, k6, k7, k8, k9, k10, k11, k12, k13, k14⟩ := HK.out _ HR22.out
          have hb01 : w12.heap.size ≠ w418.heap.size := by have := HR18.out.g.size; have := (Array.getElem?_eq_some_iff.1 B18_0.out).1; have := (Array.getElem?_eq_some_iff.1 B18_0.out).1; have := (Array.getElem?_eq_some_iff.1 B22_0.out).1; have := (Array.getElem?_eq_some_iff.1 B22_1.out).1; omega
          have hb10 := Ne.symm hb01
          have hf := M2At.end2 (x := (f18s, (f18a, f18l, f18c), (f18b, f18k, f18e))) (y := (h22s, (h22a, h22l, h22c), (h22b, h22k, h22e))) HR22.out V22_0.out V22.out B22_0.out B22_1.out hb01 (by have := HR18.out.g.size; omega) (by have := HR18.out.g.size; omega) (by have := HBB12.out; have := HR18.out.g.size; omega) (by have := HBB12.out; have := HR18.out.g.size; omega)
          obtain ⟨m0, m1, m2, n0, n1, n2⟩ := B22_0.out.cells
          obtain ⟨o0, o1, o2, q0, q1, q2⟩ := B22_1.out.cells
          have hm := HR22.out.set3 B22_0.out.no (by have := HR18.out.g.size; omega) (by have := HBB12.out; have := HR18.out.g.size; omega) f18s (.slice f18a f18l f18c) (.slice f18b f18k f18e)
          dsimp only [Go.Proofs.YtknackfmepkiaaaGreatDoor.set3] at hm
          have HM := Lib.hid hm
          clear hm
          try dsimp only [Go.Proofs.YtknackfmepkiaaaGreatDoor.set3] at hf
          have HF := Lib.hid hf
          clear hf
          refine wpAnyH_ready (rs := [12]) (by kernel_rfl) (by simp) ?_
          refine AllReadyH.cons (by rfl) (fun K hK => ?_) AllReadyH.nil
          go_simp
          refine hK.out _ _ ?_ (fun hHeld => ?_)
          · first | with_reducible exact HK.out _ HM.out | go_keep
          clear hK K
          try simp only [Act.put, List.setIfInBounds_toArray, List.set_cons_zero, List.set_cons_succ, List.getElem_toArray, List.getElem_cons_zero, List.getElem_cons_succ]
          refine wpAnyH_ready (rs := [13]) (by kernel_rfl) (by simp) ?_
          refine AllReadyH.cons (by rfl) (fun K hK => ?_) AllReadyH.nil
          go_simp
          refine hK.out _ _ ?_ (fun hHeld => ?_)
          · first | with_reducible exact HK.out _ HF.out.room | go_keep
          clear hK K
          try simp only [Act.put, List.setIfInBounds_toArray, List.set_cons_zero, List.set_cons_succ, List.getElem_toArray, List.getElem_cons_zero, List.getElem_cons_succ]
          refine wpAnyH_done (by kernel_rfl) ?_ _
          refine OnlyEx.mk' ?_
          with_reducible refine ⟨_, ?_, HF.out⟩
          simp only [puts, Act.put, List.setIfInBounds_toArray, List.set_cons_zero, List.set_cons_succ]
        exact AllReadyH.nil
      exact AllReadyH.nil
    refine AllReadyH.cons (by rfl) (fun K hK => ?_) ?_
    · go_simp
      have HR23 := Lib.hid ((show Room b w12 ((w12.alloc (.cells #[.bool false, .slice none 0 0, .slice none 0 0] 30)).alloc (.cells #[.bool false, .slice none 0 0, .slice none 0 0] 30)).drew from HRB12.out.kept (Below.drewN' ((((Below.refl w12.heap.size w12).alloc (Nat.le_refl _) (.cells #[.bool false, .slice none 0 0, .slice none 0 0] 30))).alloc (by simp) (.cells #[.bool false, .slice none 0 0, .slice none 0 0] 30)) 1)))
      have B23_0 : Hid (Blank ((w12.alloc (.cells #[.bool false, .slice none 0 0, .slice none 0 0] 30)).alloc (.cells #[.bool false, .slice none 0 0, .slice none 0 0] 30)).drew (w12.heap.size)) := Lib.hid (heap_alloc_first _ _ _)
      have B23 : Hid (Blank ((w12.alloc (.cells #[.bool false, .slice none 0 0, .slice none 0 0] 30)).alloc (.cells #[.bool false, .slice none 0 0, .slice none 0 0] 30)).drew (w12.heap.size + 1)) := Lib.hid (heap_alloc_scnd _ _ _)
      refine hK.out _ _ ?_ (fun hHeld => ?_)
      · exact HK.out _ HR23.out
      clear hK K
      try simp only [Act.put, List.setIfInBounds_toArray, List.set_cons_zero, List.set_cons_succ, List.getElem_toArray, List.getElem_cons_zero, List.getElem_cons_succ]
      refine wpAnyH_ready (rs := [4]) (by kernel_rfl) (by simp) ?_
      refine AllReadyH.cons (by rfl) (fun K hK => ?_) ?_
      · go_simp
        with_reducible refine (HA1.out _ HR23.out).mono ?_
        rintro e w424 ⟨f24s, f24a, f24l, f24c, f24b, f24k, f24e, rfl, HS24, V24⟩
        have HR24 := Lib.hid (HR23.out.trans HS24.out)
        have B24_0 := Lib.hid (B23_0.out.room HS24.out (by have := HBB12.out;  omega))
        have B24_1 := Lib.hid (B23.out.room HS24.out (by have := HBB12.out;  omega))
        clear hHeld
        refine hK.out _ _ ?_ (fun hHeld => ?_)
        · exact HK.out _ HR24.out
        clear hK K
        try simp only [Act.put, List.setIfInBounds_toArray, List.set_cons_zero, List.set_cons_succ, List.getElem_toArray, List.getElem_cons_zero, List.getElem_cons_succ]
        refine wpAnyH_ready (rs := [9]) (by kernel_rfl) (by simp) ?_
        refine AllReadyH.cons (by rfl) (fun K hK => ?_) ?_
        · go_simp
          with_reducible refine (HA2.out _ HR24.out).mono ?_
          rintro e w425 ⟨h25s, h25a, h25l, h25c, h25b, h25k, h25e, rfl, HS25, V25⟩
          have HR25 := Lib.hid (HR24.out.trans HS25.out)
          have V25_0 := Lib.hid (HS25.out.vq HR24.out.bench V24.out)
          have B25_0 := Lib.hid (B24_0.out.room HS25.out (by have := HBB12.out;  omega))
          have B25_1 := Lib.hid (B24_1.out.room HS25.out (by have := HBB12.out;  omega))
          clear hHeld
          refine hK.out _ _ ?_ (fun hHeld => ?_)
          · exact HK.out _ HR25.out
          clear hK K
          try simp only [Act.put, List.setIfInBounds_toArray, List.set_cons_zero, List.set_cons_succ, List.getElem_toArray, List.getElem_cons_zero, List.getElem_cons_succ]
          obtain ⟨k0, k1, k2, k3, k4, k5, k6, k7, k8, k9, k10, k11, k12, k13, k14⟩ := HK.out _ HR25.out
          have hb01 : w12.heap.size ≠ w12.heap.size + 1 := by have := (Array.getElem?_eq_some_iff.1 B24_0.out).1; have := (Array.getElem?_eq_some_iff.1 B24_1.out).1; have := (Array.getElem?_eq_some_iff.1 B25_0.out).1; have := (Array.getElem?_eq_some_iff.1 B25_1.out).1; omega
          have hb10 := Ne.symm hb01
          have hf := M2At.end2 (x := (f24s, (f24a, f24l, f24c), (f24b, f24k, f24e))) (y := (h25s, (h25a, h25l, h25c), (h25b, h25k, h25e))) HR25.out V25_0.out V25.out B25_0.out B25_1.out hb01 (by omega) (by omega) (by have := HBB12.out; omega) (by have := HBB12.out; omega)
          obtain ⟨m0, m1, m2, n0, n1, n2⟩ := B25_0.out.cells
          obtain ⟨o0, o1, o2, q0, q1, q2⟩ := B25_1.out.cells
          have hm := HR25.out.set3 B25_0.out.no (by omega) (by have := HBB12.out; omega) f24s (.slice f24a f24l f24c) (.slice f24b f24k f24e)
          dsimp only [Go.Proofs.YtknackfmepkiaaaGreatDoor.set3] at hm
          have HM := Lib.hid hm
          clear hm
          try dsimp only [Go.Proofs.YtknackfmepkiaaaGreatDoor.set3] at hf
          have HF := Lib.hid hf
          clear hf
          refine wpAnyH_ready (rs := [12]) (by kernel_rfl) (by simp) ?_
          refine AllReadyH.cons (by rfl) (fun K hK => ?_) AllReadyH.nil
          go_simp
          refine hK.out _ _ ?_ (fun hHeld => ?_)
          · first | with_reducible exact HK.out _ HM.out | go_keep
          clear hK K
          try simp only [Act.put, List.setIfInBounds_toArray, List.set_cons_zero, List.set_cons_succ, List.getElem_toArray, List.getElem_cons_zero, List.getElem_cons_succ]
          refine wpAnyH_ready (rs := [13]) (by kernel_rfl) (by simp) ?_
          refine AllReadyH.cons (by rfl) (fun K hK => ?_) AllReadyH.nil
          go_simp
          refine hK.out _ _ ?_ (fun hHeld => ?_)
          · first | with_reducible exact HK.out _ HF.out.room | go_keep
          clear hK K
          try simp only [Act.put, List.setIfInBounds_toArray, List.set_cons_zero, List.set_cons_succ, List.getElem_toArray, List.getElem_cons_zero, List.getElem_cons_succ]
          refine wpAnyH_done (by kernel_rfl) ?_ _
          refine OnlyEx.mk' ?_
          with_reducible refine ⟨_, ?_, HF.out⟩
          simp only [puts, Act.put, List.setIfInBounds_toArray, List.set_cons_zero, List.set_cons_succ]
        exact AllReadyH.nil
      exact AllReadyH.nil
    exact AllReadyH.nil
  refine AllReadyH.cons (by rfl) (fun K hK => ?_) ?_
  · go_simp
    have HR26 := Lib.hid ((show Room b w12 (w12.alloc (.cells #[.bool false, .slice none 0 0, .slice none 0 0] 30)).drew from HRB12.out.kept (Below.drewN' ((Below.refl w12.heap.size w12).alloc (Nat.le_refl _) (.cells #[.bool false, .slice none 0 0, .slice none 0 0] 30)) 1)))
    have B26 : Hid (Blank (w12.alloc (.cells #[.bool false, .slice none 0 0, .slice none 0 0] 30)).drew (w12.heap.size)) := Lib.hid (heap_alloc_new _ _)
    refine hK.out _ _ ?_ (fun hHeld => ?_)
    · exact HK.out _ HR26.out
    clear hK K
    try simp only [Act.put, List.setIfInBounds_toArray, List.set_cons_zero, List.set_cons_succ, List.getElem_toArray, List.getElem_cons_zero, List.getElem_cons_succ]
    refine wpAnyH_ready (rs := [4, 10]) (by kernel_rfl) (by simp) ?_
    refine AllReadyH.cons (by rfl) (fun K hK => ?_) ?_
    · go_simp
      with_reducible refine (HA1.out _ HR26.out).mono ?_
      rintro e w427 ⟨f27s, f27a, f27l, f27c, f27b, f27k, f27e, rfl, HS27, V27⟩
      have HR27 := Lib.hid (HR26.out.trans HS27.out)
      have B27_1 := Lib.hid (B26.out.room HS27.out (by have := HBB12.out;  omega))
      clear hHeld
      refine hK.out _ _ ?_ (fun hHeld => ?_)
      · exact HK.out _ HR27.out
      clear hK K
      try simp only [Act.put, List.setIfInBounds_toArray, List.set_cons_zero, List.set_cons_succ, List.getElem_toArray, List.getElem_cons_zero, List.getElem_cons_succ]
      refine wpAnyH_ready (rs := [9, 10]) (by kernel_rfl) (by simp) ?_
      refine AllReadyH.cons (by rfl) (fun K hK => ?_) ?_
      · go_simp
        with_reducible refine (HA2.out _ HR27.out).mono ?_
        rintro e w428 ⟨h28s, h28a, h28l, h28c, h28b, h28k, h28e, rfl, HS28, V28⟩
        have HR28 := Lib.hid (HR27.out.trans HS28.out)
        have V28_0 := Lib.hid (HS28.out.vq HR27.out.bench V27.out)
        have B28_1 := Lib.hid (B27_1.out.room HS28.out (by have := HBB12.out;  omega))
        clear hHeld
        refine hK.out _ _ ?_ (fun hHeld => ?_)
        · exact HK.out _ HR28.out
        clear hK K
        try simp only [Act.put, List.setIfInBounds_toArray, List.set_cons_zero, List.set_cons_succ, List.getElem_toArray, List.getElem_cons_zero, List.getElem_cons_succ]
        refine wpAnyH_ready (rs := [10]) (by kernel_rfl) (by simp) ?_
        refine AllReadyH.cons (by rfl) (fun K hK => ?_) ?_
        · go_simp
          refine hK.out _ _ ?_ (fun hHeld => ?_)
          · exact HK.out _ (HR28.out.alloc _)
          clear hK K
          try simp only [Act.put, List.setIfInBounds_toArray, List.set_cons_zero, List.set_cons_succ, List.getElem_toArray, List.getElem_cons_zero, List.getElem_cons_succ]
          obtain ⟨k0, k1, k2, k3, k4, k5, k6, k7, k8, k9, k10, k11, k12, k13, k14⟩ := HK.out _ HR28.out
          have hf := M2At.end1b (x := (f27s, (f27a, f27l, f27c), (f27b, f27k, f27e))) (y := (h28s, (h28a, h28l, h28c), (h28b, h28k, h28e))) HR28.out V28_0.out V28.out B28_1.out (by omega) (by have := HBB12.out; omega)
          obtain ⟨m0, m1, m2, n0, n1, n2⟩ := B28_1.out.cells
          have hgw : w12.heap.size ≠ w428.heap.size := by have := (Array.getElem?_eq_some_iff.1 B28_1.out).1; omega
          have hgw2 := Ne.symm hgw
          have hgl := (Array.getElem?_eq_some_iff.1 B28_1.out).1
          try dsimp only [Go.Proofs.YtknackfmepkiaaaGreatDoor.set3] at hf
          have HF := Lib.hid hf
          clear hf
          refine wpAnyH_ready (rs := [12]) (by kernel_rfl) (by simp) ?_
          refine AllReadyH.cons (by rfl) (fun K hK => ?_) AllReadyH.nil
          go_simp
          refine hK.out _ _ ?_ (fun hHeld => ?_)
          · first | with_reducible exact HK.out _ (HR28.out.alloc _) | go_keep
          clear hK K
          try simp only [Act.put, List.setIfInBounds_toArray, List.set_cons_zero, List.set_cons_succ, List.getElem_toArray, List.getElem_cons_zero, List.getElem_cons_succ]
          refine wpAnyH_ready (rs := [13]) (by kernel_rfl) (by simp) ?_
          refine AllReadyH.cons (by rfl) (fun K hK => ?_) AllReadyH.nil
          go_simp
          refine hK.out _ _ ?_ (fun hHeld => ?_)
          · first | with_reducible exact HK.out _ HF.out.room | go_keep
          clear hK K
          try simp only [Act.put, List.setIfInBounds_toArray, List.set_cons_zero, List.set_cons_succ, List.getElem_toArray, List.getElem_cons_zero, List.getElem_cons_succ]
          refine wpAnyH_done (by kernel_rfl) ?_ _
          refine OnlyEx.mk' ?_
          with_reducible refine ⟨_, ?_, HF.out⟩
          simp only [puts, Act.put, List.setIfInBounds_toArray, List.set_cons_zero, List.set_cons_succ]
        exact AllReadyH.nil
      refine AllReadyH.cons (by rfl) (fun K hK => ?_) ?_
      · go_simp
        have HR30 := Lib.hid (HR27.out.alloc (.cells #[.bool false, .slice none 0 0, .slice none 0 0] 30))
        have V30_0 := Lib.hid (V27.out.alloc (.cells #[.bool false, .slice none 0 0, .slice none 0 0] 30))
        have B30_1 := Lib.hid (B27_1.out.alloc (.cells #[.bool false, .slice none 0 0, .slice none 0 0] 30))
        have B30 : Hid (Blank (w427.alloc (.cells #[.bool false, .slice none 0 0, .slice none 0 0] 30)) (w427.heap.size)) := Lib.hid (heap_alloc_new _ _)
        refine hK.out _ _ ?_ (fun hHeld => ?_)
        · exact HK.out _ HR30.out
        clear hK K
        try simp only [Act.put, List.setIfInBounds_toArray, List.set_cons_zero, List.set_cons_succ, List.getElem_toArray, List.getElem_cons_zero, List.getElem_cons_succ]
        refine wpAnyH_ready (rs := [9]) (by kernel_rfl) (by simp) ?_
        refine AllReadyH.cons (by rfl) (fun K hK => ?_) ?_
        · go_simp
          with_reducible refine (HA2.out _ HR30.out).mono ?_
          rintro e w431 ⟨h31s, h31a, h31l, h31c, h31b, h31k, h31e, rfl, HS31, V31⟩
          have HR31 := Lib.hid (HR30.out.trans HS31.out)
          have V31_0 := Lib.hid (HS31.out.vq HR30.out.bench V30_0.out)
          have B31_1 := Lib.hid (B30_1.out.room HS31.out (by have := HBB12.out; have := HR27.out.g.size;  omega))
          have B31_0 := Lib.hid (B30.out.room HS31.out (by have := HBB12.out; have := HR27.out.g.size;  omega))
          clear hHeld
          refine hK.out _ _ ?_ (fun hHeld => ?_)
          · exact HK.out _ HR31.out
          clear hK K
          try simp only [Act.put, List.setIfInBounds_toArray, List.set_cons_zero, List.set_cons_succ, List.getElem_toArray, List.getElem_cons_zero, List.getElem_cons_succ]
          obtain ⟨k0, k1, k2, k3, k4, k5, k6, k7, k8, k9, k10, k11, k12, k13, k14⟩ := HK.out _ HR31.out
          have hb01 : w427.heap.size ≠ w12.heap.size := by have := HR27.out.g.size; have := (Array.getElem?_eq_some_iff.1 B27_1.out).1; have := (Array.getElem?_eq_some_iff.1 B27_1.out).1; have := (Array.getElem?_eq_some_iff.1 B31_1.out).1; have := (Array.getElem?_eq_some_iff.1 B31_0.out).1; omega
          have hb10 := Ne.symm hb01
          have hf := M2At.end2 (x := (f27s, (f27a, f27l, f27c), (f27b, f27k, f27e))) (y := (h31s, (h31a, h31l, h31c), (h31b, h31k, h31e))) HR31.out V31_0.out V31.out B31_0.out B31_1.out hb01 (by have := HR27.out.g.size; omega) (by have := HR27.out.g.size; omega) (by have := HBB12.out; have := HR27.out.g.size; omega) (by have := HBB12.out; have := HR27.out.g.size; omega)
          obtain ⟨m0, m1, m2, n0, n1, n2⟩ := B31_0.out.cells
          obtain ⟨o0, o1, o2, q0, q1, q2⟩ := B31_1.out.cells
          have hm := HR31.out.set3 B31_0.out.no (by have := HR27.out.g.size; omega) (by have := HBB12.out; have := HR27.out.g.size; omega) f27s (.slice f27a f27l f27c) (.slice f27b f27k f27e)
          dsimp only [Go.Proofs.YtknackfmepkiaaaGreatDoor.set3] at hm
          have HM := Lib.hid hm
          clear hm
          try dsimp only [Go.Proofs.YtknackfmepkiaaaGreatDoor.set3] at hf
          have HF := Lib.hid hf
          clear hf
          refine wpAnyH_ready (rs := [12]) (by kernel_rfl) (by simp) ?_
          refine AllReadyH.cons (by rfl) (fun K hK => ?_) AllReadyH.nil
          go_simp
          refine hK.out _ _ ?_ (fun hHeld => ?_)
          · first | with_reducible exact HK.out _ HM.out | go_keep
          clear hK K
          try simp only [Act.put, List.setIfInBounds_toArray, List.set_cons_zero, List.set_cons_succ, List.getElem_toArray, List.getElem_cons_zero, List.getElem_cons_succ]
          refine wpAnyH_ready (rs := [13]) (by kernel_rfl) (by simp) ?_
          refine AllReadyH.cons (by rfl) (fun K hK => ?_) AllReadyH.nil
          go_simp
          refine hK.out _ _ ?_ (fun hHeld => ?_)
          · first | with_reducible exact HK.out _ HF.out.room | go_keep
          clear hK K
          try simp only [Act.put, List.setIfInBounds_toArray, List.set_cons_zero, List.set_cons_succ, List.getElem_toArray, List.getElem_cons_zero, List.getElem_cons_succ]
          refine wpAnyH_done (by kernel_rfl) ?_ _
          refine OnlyEx.mk' ?_
          with_reducible refine ⟨_, ?_, HF.out⟩
          simp only [puts, Act.put, List.setIfInBounds_toArray, List.set_cons_zero, List.set_cons_succ]
        exact AllReadyH.nil
      exact AllReadyH.nil
    refine AllReadyH.cons (by rfl) (fun K hK => ?_) ?_
    · go_simp
      have HR32 := Lib.hid ((show Room b w12 ((w12.alloc (.cells #[.bool false, .slice none 0 0, .slice none 0 0] 30)).alloc (.cells #[.bool false, .slice none 0 0, .slice none 0 0] 30)).drew from HRB12.out.kept (Below.drewN' ((((Below.refl w12.heap.size w12).alloc (Nat.le_refl _) (.cells #[.bool false, .slice none 0 0, .slice none 0 0] 30))).alloc (by simp) (.cells #[.bool false, .slice none 0 0, .slice none 0 0] 30)) 1)))
      have B32_1 : Hid (Blank ((w12.alloc (.cells #[.bool false, .slice none 0 0, .slice none 0 0] 30)).alloc (.cells #[.bool false, .slice none 0 0, .slice none 0 0] 30)).drew (w12.heap.size)) := Lib.hid (heap_alloc_first _ _ _)
      have B32 : Hid (Blank ((w12.alloc (.cells #[.bool false, .slice none 0 0, .slice none 0 0] 30)).alloc (.cells #[.bool false, .slice none 0 0, .slice none 0 0] 30)).drew (w12.heap.size + 1)) := Lib.hid (heap_alloc_scnd _ _ _)
      refine hK.out _ _ ?_ (fun hHeld => ?_)
      · exact HK.out _ HR32.out
      clear hK K
      try simp only [Act.put, List.setIfInBounds_toArray, List.set_cons_zero, List.set_cons_succ, List.getElem_toArray, List.getElem_cons_zero, List.getElem_cons_succ]
      refine wpAnyH_ready (rs := [4]) (by kernel_rfl) (by simp) ?_
      refine AllReadyH.cons (by rfl) (fun K hK => ?_) ?_
      · go_simp
        with_reducible refine (HA1.out _ HR32.out).mono ?_
        rintro e w433 ⟨f33s, f33a, f33l, f33c, f33b, f33k, f33e, rfl, HS33, V33⟩
        have HR33 := Lib.hid (HR32.out.trans HS33.out)
        have B33_1 := Lib.hid (B32_1.out.room HS33.out (by have := HBB12.out;  omega))
        have B33_0 := Lib.hid (B32.out.room HS33.out (by have := HBB12.out;  omega))
        clear hHeld
        refine hK.out _ _ ?_ (fun hHeld => ?_)
        · exact HK.out _ HR33.out
        clear hK K
        try simp only [Act.put, List.setIfInBounds_toArray, List.set_cons_zero, List.set_cons_succ, List.getElem_toArray, List.getElem_cons_zero, List.getElem_cons_succ]
        refine wpAnyH_ready (rs := [9]) (by kernel_rfl) (by simp) ?_
        refine AllReadyH.cons (by rfl) (fun K hK => ?_) ?_
        · go_simp
          with_reducible refine (HA2.out _ HR33.out).mono ?_
          rintro e w434 ⟨h34s, h34a, h34l, h34c, h34b, h34k, h34e, rfl, HS34, V34⟩
          have HR34 := Lib.hid (HR33.out.trans HS34.out)
          have V34_0 := Lib.hid (HS34.out.vq HR33.out.bench V33.out)
          have B34_1 := Lib.hid (B33_1.out.room HS34.out (by have := HBB12.out;  omega))
          have B34_0 := Lib.hid (B33_0.out.room HS34.out (by have := HBB12.out;  omega))
          clear hHeld
          refine hK.out _ _ ?_ (fun hHeld => ?_)
          · exact HK.out _ HR34.out
          clear hK K
          try simp only [Act.put, List.setIfInBounds_toArray, List.set_cons_zero, List.set_cons_succ, List.getElem_toArray, List.getElem_cons_zero, List.getElem_cons_succ]
          obtain ⟨k0, k1, k2, k3, k4, k5, k6, k7, k8, k9, k10, k11, k12, k13, k14⟩ := HK.out _ HR34.out
          have hb01 : w12.heap.size + 1 ≠ w12.heap.size := by have := (Array.getElem?_eq_some_iff.1 B33_1.out).1; have := (Array.getElem?_eq_some_iff.1 B33_0.out).1; have := (Array.getElem?_eq_some_iff.1 B34_1.out).1; have := (Array.getElem?_eq_some_iff.1 B34_0.out).1; omega
          have hb10 := Ne.symm hb01
          have hf := M2At.end2 (x := (f33s, (f33a, f33l, f33c), (f33b, f33k, f33e))) (y := (h34s, (h34a, h34l, h34c), (h34b, h34k, h34e))) HR34.out V34_0.out V34.out B34_0.out B34_1.out hb01 (by omega) (by omega) (by have := HBB12.out; omega) (by have := HBB12.out; omega)
          obtain ⟨m0, m1, m2, n0, n1, n2⟩ := B34_0.out.cells
          obtain ⟨o0, o1, o2, q0, q1, q2⟩ := B34_1.out.cells
          have hm := HR34.out.set3 B34_0.out.no (by omega) (by have := HBB12.out; omega) f33s (.slice f33a f33l f33c) (.slice f33b f33k f33e)
          dsimp only [Go.Proofs.YtknackfmepkiaaaGreatDoor.set3] at hm
          have HM := Lib.hid hm
          clear hm
          try dsimp only [Go.Proofs.YtknackfmepkiaaaGreatDoor.set3] at hf
          have HF := Lib.hid hf
          clear hf
          refine wpAnyH_ready (rs := [12]) (by kernel_rfl) (by simp) ?_
          refine AllReadyH.cons (by rfl) (fun K hK => ?_) AllReadyH.nil
          go_simp
          refine hK.out _ _ ?_ (fun hHeld => ?_)
          · first | with_reducible exact HK.out _ HM.out | go_keep
          clear hK K
          try simp only [Act.put, List.setIfInBounds_toArray, List.set_cons_zero, List.set_cons_succ, List.getElem_toArray, List.getElem_cons_zero, List.getElem_cons_succ]
          refine wpAnyH_ready (rs := [13]) (by kernel_rfl) (by simp) ?_
          refine AllReadyH.cons (by rfl) (fun K hK => ?_) AllReadyH.nil
          go_simp
          refine hK.out _ _ ?_ (fun hHeld => ?_)
          · first | with_reducible exact HK.out _ HF.out.room | go_keep
          clear hK K
          try simp only [Act.put, List.setIfInBounds_toArray, List.set_cons_zero, List.set_cons_succ, List.getElem_toArray, List.getElem_cons_zero, List.getElem_cons_succ]
          refine wpAnyH_done (by kernel_rfl) ?_ _
          refine OnlyEx.mk' ?_
          with_reducible refine ⟨_, ?_, HF.out⟩
          simp only [puts, Act.put, List.setIfInBounds_toArray, List.set_cons_zero, List.set_cons_succ]
        exact AllReadyH.nil
      exact AllReadyH.nil
    exact AllReadyH.nil
  exact AllReadyH.nil
end Go.Proofs.YtknackfmepkiaaaGreatDoor


/-
  DeltaSmall: the number at a small delta is the document's, in one region.
-/
set_option linter.unusedVariables false
set_option linter.unusedSimpArgs false
namespace Go.Proofs.YtknackfmepkiaaaGreatDoor
open Go.RowKit Rep


set_option maxRecDepth 100000 in
set_option maxHeartbeats 32000000 in
theorem smT24 {s0 s1 s2 s3 s4 s6 s7 s8 s9 s10 s13 s15 s16 s17 s18 s19 s20 s21 s22 s23 s24 s25 s26 s27 s28 s29 s30 s31 s32 s33 s34 s35 s36 s37 s38 s39 s40 s41 s42 s43 s44 s45 s46 s47 s48 s49 s50 s51 s52 s53 s54 s55 s56 s57 s58 s59 s60 s61 s62 s63 s64 s65 s66 s67 s68 s69 s70 s71 s72 s73 s74 s75 s76 s77 s78 s79 s80 s81 s82 s83 s84 s85 s86 s87 s88 s89 s90 s91 s92 s93 s94 s95 s96 s97 s98 s99 s100 s101 s102 s103 s104 s105 s106 s107 s108 s109 s110 s111 s112 s113 s114 s115 s116 s117 s118 s119 s120 s121 s122 s123 : Value} {b g gt gx k len cap : Nat} {ms es xxs uus yys vvs : Bool} {ma mb ea eb xxa xxb uua uub yya yyb vva vvb : Option Addr} {ml mc mk me el ec ek ee xxl xxc xxk xxe uul uuc uuk uue yyl yyc yyk yye vvl vvc vvk vve : Nat} {w13 : World} {p : PQ} {q r : Rat} (HRR : Hid (Room b w13 w13)) (HRD13 : Hid (Room b w13 w13.drew))
    (HK24 : Hid (∀ W, Room b w13 W → (W.cell? ⟨gx, 0, none⟩ = some (.bool ms) ∧ W.cell? ⟨gx, 1, none⟩ = some (.slice ma ml mc) ∧ W.cell? ⟨gx, 2, none⟩ = some (.slice mb mk me) ∧ W.cell? ⟨g, k * 12, none⟩ = some (.bool xxs) ∧ W.cell? ⟨g, k * 12 + 1, none⟩ = some (.slice xxa xxl xxc) ∧ W.cell? ⟨g, k * 12 + 2, none⟩ = some (.slice xxb xxk xxe) ∧ W.cell? ⟨g, k * 12 + 3, none⟩ = some (.bool uus) ∧ W.cell? ⟨g, k * 12 + 4, none⟩ = some (.slice uua uul uuc) ∧ W.cell? ⟨g, k * 12 + 5, none⟩ = some (.slice uub uuk uue) ∧ W.cell? ⟨gt, 0, none⟩ = some (.bool es) ∧ W.cell? ⟨gt, 1, none⟩ = some (.slice ea el ec) ∧ W.cell? ⟨gt, 2, none⟩ = some (.slice eb ek ee))))
    (HVE13 : Hid (∀ W, Room b w13 W → VQ r (es, (ea, el, ec), (eb, ek, ee)) W)) (HVD13 : Hid (∀ W, Room b w13 W → (VD p.a (xxs, (xxa, xxl, xxc), (xxb, xxk, xxe)) W ∧ VD p.b (uus, (uua, uul, uuc), (uub, uuk, uue)) W ∧ VD p.e (yys, (yya, yyl, yyc), (yyb, yyk, yye)) W ∧ VD p.f (vvs, (vva, vvl, vvc), (vvb, vvk, vve)) W)))
    (HVX : Hid (∀ W, Room b w13 W → VQ (p.a + p.b * r) (ms, (ma, ml, mc), (mb, mk, me)) W)) (HSX : Hid (szQ (p.a + p.b * r) ≤ 100)) (HOK : Hid (szQ p.a ≤ 6 ∧ szQ p.b ≤ 6 ∧ szQ p.e ≤ 6 ∧ szQ p.f ≤ 6)) (HRI : Hid (0 ≤ r ∧ r ≤ q ∧ szQ r ≤ 39)) (hki : (k : Int) < (len : Int)) (hk0 : (0 : Int) ≤ (k : Int)) :
    Code.wp Tryz.prog (Code.region 24 #[{ dst := some 90, op := Op.load 30 (Operand.tmp 14), type := 30, pos := "law.go:78", after := #[], guard := none }, { dst := some 91, op := Op.move (Operand.tmp 5), type := 24, pos := "law.go:78", after := #[], guard := none }, { dst := some 92, op := Op.move (Operand.tmp 12), type := 3, pos := "law.go:78", after := #[], guard := none }, { dst := some 93, op := Op.indexAddr 24 (Operand.tmp 91) (Operand.tmp 92), type := 0, pos := "law.go:78", after := #[{ on := 1, ground := Ground.data }, { on := 2, ground := Ground.data }], guard := none }, { dst := some 94, op := Op.indexAddr 42 (Operand.tmp 93) (Operand.const (Value.int IntKind.i64 0)), type := 0, pos := "law.go:78", after := #[{ on := 3, ground := Ground.data }], guard := none }, { dst := some 95, op := Op.load 40 (Operand.tmp 94), type := 40, pos := "law.go:78", after := #[{ on := 4, ground := Ground.data }], guard := none }, { dst := some 96, op := Op.load 30 (Operand.tmp 11), type := 30, pos := "law.go:78", after := #[], guard := none }, { dst := some 97, op := Op.call { callee := Callee.value (Operand.func 19), args := #[Operand.tmp 96], argTypes := #[30] }, type := 38, pos := "law.go:78", after := #[{ on := 6, ground := Ground.data }], guard := none }, { dst := some 98, op := Op.call { callee := Callee.value (Operand.func 18), args := #[Operand.tmp 95, Operand.tmp 97], argTypes := #[40, 38] }, type := 38, pos := "law.go:78", after := #[{ on := 5, ground := Ground.data }, { on := 7, ground := Ground.data }, { on := 7, ground := Ground.chain }], guard := none }, { dst := some 99, op := Op.call { callee := Callee.value (Operand.func 12), args := #[Operand.tmp 98], argTypes := #[38] }, type := 30, pos := "law.go:78", after := #[{ on := 8, ground := Ground.data }, { on := 8, ground := Ground.chain }], guard := none }, { dst := some 100, op := Op.call { callee := Callee.value (Operand.func 11), args := #[Operand.tmp 90, Operand.tmp 99], argTypes := #[30, 30] }, type := 4, pos := "law.go:78", after := #[{ on := 0, ground := Ground.data }, { on := 9, ground := Ground.data }, { on := 9, ground := Ground.chain }], guard := none }, { dst := some 101, op := Op.unOp UnOp.not 4 (Operand.tmp 100), type := 4, pos := "law.go:78", after := #[{ on := 10, ground := Ground.data }], guard := none }] true) (OnlyEx (fun i : RawR × RawR × RawR => puts { tmps := #[s0, s1, s2, s3, s4, .slice (some ⟨g, 0, none⟩) len cap, s6, s7, s8, s9, s10, .pointer (some ⟨gt, 0, none⟩), .int .i64 (k : Int), s13, .pointer (some ⟨gx, 0, none⟩), s15, s16, s17, s18, s19, s20, s21, s22, s23, s24, s25, s26, s27, s28, s29, s30, s31, s32, s33, s34, s35, s36, s37, s38, s39, s40, s41, s42, s43, s44, s45, s46, s47, s48, s49, s50, s51, s52, s53, s54, s55, s56, s57, s58, s59, s60, s61, s62, s63, s64, s65, s66, s67, s68, s69, s70, s71, s72, s73, s74, s75, s76, s77, s78, s79, s80, s81, s82, s83, s84, s85, s86, s87, s88, s89, s90, s91, s92, s93, s94, s95, s96, s97, s98, s99, s100, s101, s102, s103, s104, s105, s106, s107, s108, s109, s110, s111, s112, s113, s114, s115, s116, s117, s118, s119, s120, s121, s122, s123], defers := [] } [(90, .agg #[.bool ms, .slice ma ml mc, .slice mb mk me]), (91, .slice (some ⟨g, 0, none⟩) len cap), (92, .int .i64 (k : Int)), (93, .pointer (some ⟨g, k * 12, none⟩)), (94, .pointer (some ⟨g, k * 12, none⟩)), (95, .agg #[.bool xxs, .slice xxa xxl xxc, .slice xxb xxk xxe, .bool uus, .slice uua uul uuc, .slice uub uuk uue]), (96, .agg #[.bool es, .slice ea el ec, .slice eb ek ee]), (97, .agg #[.bool i.1.1, .slice i.1.2.1.1 i.1.2.1.2.1 i.1.2.1.2.2, .slice i.1.2.2.1 i.1.2.2.2.1 i.1.2.2.2.2]), (98, .agg #[.bool i.2.1.1, .slice i.2.1.2.1.1 i.2.1.2.1.2.1 i.2.1.2.1.2.2, .slice i.2.1.2.2.1 i.2.1.2.2.2.1 i.2.1.2.2.2.2]), (99, .agg #[.bool i.2.2.1, .slice i.2.2.2.1.1 i.2.2.2.1.2.1 i.2.2.2.1.2.2, .slice i.2.2.2.2.1 i.2.2.2.2.2.1 i.2.2.2.2.2.2]), (100, .bool true), (101, .bool false)]) (fun _ W => Room b w13 W)) { tmps := #[s0, s1, s2, s3, s4, .slice (some ⟨g, 0, none⟩) len cap, s6, s7, s8, s9, s10, .pointer (some ⟨gt, 0, none⟩), .int .i64 (k : Int), s13, .pointer (some ⟨gx, 0, none⟩), s15, s16, s17, s18, s19, s20, s21, s22, s23, s24, s25, s26, s27, s28, s29, s30, s31, s32, s33, s34, s35, s36, s37, s38, s39, s40, s41, s42, s43, s44, s45, s46, s47, s48, s49, s50, s51, s52, s53, s54, s55, s56, s57, s58, s59, s60, s61, s62, s63, s64, s65, s66, s67, s68, s69, s70, s71, s72, s73, s74, s75, s76, s77, s78, s79, s80, s81, s82, s83, s84, s85, s86, s87, s88, s89, s90, s91, s92, s93, s94, s95, s96, s97, s98, s99, s100, s101, s102, s103, s104, s105, s106, s107, s108, s109, s110, s111, s112, s113, s114, s115, s116, s117, s118, s119, s120, s121, s122, s123], defers := [] } w13 := by
  obtain ⟨t0, t1, t2, t3, t4, t5, t6, t7, t8, t9, t10, t11⟩ := HK24.out w13 HRR.out
  refine wp_region_held_drew (S := (fun w' => w'.cell? ⟨gx, 0, none⟩ = some (.bool ms) ∧ w'.cell? ⟨gx, 1, none⟩ = some (.slice ma ml mc) ∧ w'.cell? ⟨gx, 2, none⟩ = some (.slice mb mk me) ∧ w'.cell? ⟨g, k * 12, none⟩ = some (.bool xxs) ∧ w'.cell? ⟨g, k * 12 + 1, none⟩ = some (.slice xxa xxl xxc) ∧ w'.cell? ⟨g, k * 12 + 2, none⟩ = some (.slice xxb xxk xxe) ∧ w'.cell? ⟨g, k * 12 + 3, none⟩ = some (.bool uus) ∧ w'.cell? ⟨g, k * 12 + 4, none⟩ = some (.slice uua uul uuc) ∧ w'.cell? ⟨g, k * 12 + 5, none⟩ = some (.slice uub uuk uue) ∧ w'.cell? ⟨gt, 0, none⟩ = some (.bool es) ∧ w'.cell? ⟨gt, 1, none⟩ = some (.slice ea el ec) ∧ w'.cell? ⟨gt, 2, none⟩ = some (.slice eb ek ee))) (by kernel_rfl) ?_ (fun hHeld => ?_)
  · exact HK24.out _ HRD13.out
  refine wpAnyH_take (i := 0) (v := ?_) (by rfl) (by kernel_rfl) (by kernel_rfl) (by kernel_rfl) (by exact fun _ _ _ h => h) (Or.inl ⟨by rfl, ?_⟩) hHeld ?_
  rotate_left 1
  · intro w' hSw
    go_simp
    try with_reducible rfl
  try simp only [Act.put, List.setIfInBounds_toArray, List.set_cons_zero, List.set_cons_succ, List.getElem_toArray, List.getElem_cons_zero, List.getElem_cons_succ]
  refine wpAnyH_take (i := 1) (v := ?_) (by rfl) (by kernel_rfl) (by kernel_rfl) (by kernel_rfl) (by exact fun _ _ _ h => h) (Or.inl ⟨by rfl, ?_⟩) hHeld ?_
  rotate_left 1
  · intro w' hSw
    go_simp
    try with_reducible rfl
  try simp only [Act.put, List.setIfInBounds_toArray, List.set_cons_zero, List.set_cons_succ, List.getElem_toArray, List.getElem_cons_zero, List.getElem_cons_succ]
  refine wpAnyH_take (i := 2) (v := ?_) (by rfl) (by kernel_rfl) (by kernel_rfl) (by kernel_rfl) (by exact fun _ _ _ h => h) (Or.inl ⟨by rfl, ?_⟩) hHeld ?_
  rotate_left 1
  · intro w' hSw
    go_simp
    try with_reducible rfl
  try simp only [Act.put, List.setIfInBounds_toArray, List.set_cons_zero, List.set_cons_succ, List.getElem_toArray, List.getElem_cons_zero, List.getElem_cons_succ]
  refine wpAnyH_take (i := 3) (v := ?_) (by rfl) (by kernel_rfl) (by kernel_rfl) (by kernel_rfl) (by exact fun _ _ _ h => h) (Or.inl ⟨by rfl, ?_⟩) hHeld ?_
  rotate_left 1
  · intro w' hSw
    go_simp
    try with_reducible rfl
  try simp only [Act.put, List.setIfInBounds_toArray, List.set_cons_zero, List.set_cons_succ, List.getElem_toArray, List.getElem_cons_zero, List.getElem_cons_succ]
  refine wpAnyH_take (i := 4) (v := ?_) (by rfl) (by kernel_rfl) (by kernel_rfl) (by kernel_rfl) (by exact fun _ _ _ h => h) (Or.inl ⟨by rfl, ?_⟩) hHeld ?_
  rotate_left 1
  · intro w' hSw
    go_simp
    try with_reducible rfl
  try simp only [Act.put, List.setIfInBounds_toArray, List.set_cons_zero, List.set_cons_succ, List.getElem_toArray, List.getElem_cons_zero, List.getElem_cons_succ]
  refine wpAnyH_take (i := 5) (v := ?_) (by rfl) (by kernel_rfl) (by kernel_rfl) (by kernel_rfl) (by exact fun _ _ _ h => h) (Or.inl ⟨by rfl, ?_⟩) hHeld ?_
  rotate_left 1
  · intro w' hSw
    go_simp
    try with_reducible rfl
  try simp only [Act.put, List.setIfInBounds_toArray, List.set_cons_zero, List.set_cons_succ, List.getElem_toArray, List.getElem_cons_zero, List.getElem_cons_succ]
  refine wpAnyH_take (i := 6) (v := ?_) (by rfl) (by kernel_rfl) (by kernel_rfl) (by kernel_rfl) (by exact fun _ _ _ h => h) (Or.inl ⟨by rfl, ?_⟩) hHeld ?_
  rotate_left 1
  · intro w' hSw
    go_simp
    try with_reducible rfl
  try simp only [Act.put, List.setIfInBounds_toArray, List.set_cons_zero, List.set_cons_succ, List.getElem_toArray, List.getElem_cons_zero, List.getElem_cons_succ]
  refine wpAnyH_ready (rs := [7]) (by kernel_rfl) (by simp) ?_
  refine AllReadyH.cons (by rfl) (fun K hK => ?_) AllReadyH.nil
  go_simp
  with_reducible refine (got_of (HVE13.out _ HRD13.out) (by have := HRI.out.2.2; omega) (Below.refl _ _)).mono ?_
  rintro e w201 ⟨fs, fa, fl, fc, fb, fk, fe, rfl, G1, V1⟩
  have HRa := Lib.hid (HRD13.out.kept G1.out)
  clear hHeld
  refine hK.out _ _ ?_ (fun hHeld => ?_)
  · exact HK24.out _ HRa.out
  clear hK K
  try simp only [Act.put, List.setIfInBounds_toArray, List.set_cons_zero, List.set_cons_succ, List.getElem_toArray, List.getElem_cons_zero, List.getElem_cons_succ]
  refine wpAnyH_ready (rs := [8]) (by kernel_rfl) (by simp) ?_
  refine AllReadyH.cons (by rfl) (fun K hK => ?_) AllReadyH.nil
  go_simp
  with_reducible refine (AtDD (HVD13.out _ HRa.out).1 (HVD13.out _ HRa.out).2.1 V1.out (by have := HOK.out.1; omega) HOK.out.2.1 HRI.out.2.2 (Below.refl _ _)).mono ?_
  rintro e w202 ⟨hs, ha, hl, hc, hb, hk, he, rfl, G2, V2⟩
  have HRb := Lib.hid (HRa.out.kept G2.out)
  clear hHeld
  refine hK.out _ _ ?_ (fun hHeld => ?_)
  · exact HK24.out _ HRb.out
  clear hK K
  try simp only [Act.put, List.setIfInBounds_toArray, List.set_cons_zero, List.set_cons_succ, List.getElem_toArray, List.getElem_cons_zero, List.getElem_cons_succ]
  refine wpAnyH_ready (rs := [9]) (by kernel_rfl) (by simp) ?_
  refine AllReadyH.cons (by rfl) (fun K hK => ?_) AllReadyH.nil
  go_simp
  with_reducible refine (got_form V2.out HSX.out (Below.refl _ _)).mono ?_
  rintro e w203 ⟨ns, na, nl, nc, nb, nk, ne, rfl, G3, V3⟩
  have HRc := Lib.hid (HRb.out.kept G3.out)
  clear hHeld
  refine hK.out _ _ ?_ (fun hHeld => ?_)
  · exact HK24.out _ HRc.out
  clear hK K
  try simp only [Act.put, List.setIfInBounds_toArray, List.set_cons_zero, List.set_cons_succ, List.getElem_toArray, List.getElem_cons_zero, List.getElem_cons_succ]
  refine wpAnyH_ready (rs := [10]) (by kernel_rfl) (by simp) ?_
  refine AllReadyH.cons (by rfl) (fun K hK => ?_) AllReadyH.nil
  go_simp
  with_reducible refine (got_same (HVX.out _ HRc.out) V3.out HSX.out (Below.refl _ _)).mono ?_
  rintro e w204 ⟨rfl, G4⟩
  have HRd := Lib.hid (HRc.out.kept G4.out)
  clear hHeld
  refine hK.out _ _ ?_ (fun hHeld => ?_)
  · exact HK24.out _ HRd.out
  clear hK K
  try simp only [Act.put, List.setIfInBounds_toArray, List.set_cons_zero, List.set_cons_succ, List.getElem_toArray, List.getElem_cons_zero, List.getElem_cons_succ]
  refine wpAnyH_take (i := 11) (v := ?_) (by rfl) (by kernel_rfl) (by kernel_rfl) (by kernel_rfl) (by exact fun _ _ _ h => h) (Or.inl ⟨by rfl, ?_⟩) hHeld ?_
  rotate_left 1
  · intro w' hSw
    go_simp
    try with_reducible rfl
  try simp only [Act.put, List.setIfInBounds_toArray, List.set_cons_zero, List.set_cons_succ, List.getElem_toArray, List.getElem_cons_zero, List.getElem_cons_succ]
  refine wpAnyH_done (by kernel_rfl) ?_ _
  refine OnlyEx.mk' ?_
  with_reducible refine ⟨((fs, (fa, fl, fc), (fb, fk, fe)), (hs, (ha, hl, hc), (hb, hk, he)), (ns, (na, nl, nc), (nb, nk, ne))), ?_, HRd.out⟩
  simp only [puts, Act.put, List.setIfInBounds_toArray, List.set_cons_zero, List.set_cons_succ]
end Go.Proofs.YtknackfmepkiaaaGreatDoor


/-
  DeltaSmall: no pair turns round, in one region (in order ahead).
-/
set_option linter.unusedVariables false
set_option linter.unusedSimpArgs false
namespace Go.Proofs.YtknackfmepkiaaaGreatDoor
open Go.RowKit Rep


set_option maxRecDepth 100000 in
set_option maxHeartbeats 32000000 in
theorem smT26Y {s0 s1 s2 s3 s4 s6 s7 s8 s9 s10 s11 s13 s16 s17 s18 s19 s20 s21 s22 s23 s24 s25 s26 s27 s28 s29 s30 s31 s32 s33 s34 s35 s36 s37 s38 s39 s40 s41 s42 s43 s44 s45 s46 s47 s48 s49 s50 s51 s52 s53 s54 s55 s56 s57 s58 s59 s60 s61 s62 s63 s64 s65 s66 s67 s68 s69 s70 s71 s72 s73 s74 s75 s76 s77 s78 s79 s80 s81 s82 s83 s84 s85 s86 s87 s88 s89 s90 s91 s92 s93 s94 s95 s96 s97 s98 s99 s100 s101 s102 s103 s104 s105 s106 s107 s108 s109 s110 s111 s112 s113 s114 s115 s116 s117 s118 s119 s120 s121 s122 s123 : Value} {b g gx gy k len cap : Nat} {ms os xxs uus yys vvs : Bool} {ma mb oa ob xxa xxb uua uub yya yyb vva vvb : Option Addr} {ml mc mk me ol oc ok oe xxl xxc xxk xxe uul uuc uuk uue yyl yyc yyk yye vvl vvc vvk vve : Nat} {w13 w14 : World} {p : PQ} {r : Rat} {cq c2 : Int} (HR24 : Hid (Room b w13 w14)) (HRD24 : Hid (Room b w13 w14.drew))
    (HK26 : Hid (∀ W, Room b w13 W → (W.cell? ⟨gx, 0, none⟩ = some (.bool ms) ∧ W.cell? ⟨gx, 1, none⟩ = some (.slice ma ml mc) ∧ W.cell? ⟨gx, 2, none⟩ = some (.slice mb mk me) ∧ W.cell? ⟨gy, 0, none⟩ = some (.bool os) ∧ W.cell? ⟨gy, 1, none⟩ = some (.slice oa ol oc) ∧ W.cell? ⟨gy, 2, none⟩ = some (.slice ob ok oe) ∧ W.cell? ⟨g, k * 12, none⟩ = some (.bool xxs) ∧ W.cell? ⟨g, k * 12 + 1, none⟩ = some (.slice xxa xxl xxc) ∧ W.cell? ⟨g, k * 12 + 2, none⟩ = some (.slice xxb xxk xxe) ∧ W.cell? ⟨g, k * 12 + 3, none⟩ = some (.bool uus) ∧ W.cell? ⟨g, k * 12 + 4, none⟩ = some (.slice uua uul uuc) ∧ W.cell? ⟨g, k * 12 + 5, none⟩ = some (.slice uub uuk uue) ∧ W.cell? ⟨g, k * 12 + 6, none⟩ = some (.bool yys) ∧ W.cell? ⟨g, k * 12 + 7, none⟩ = some (.slice yya yyl yyc) ∧ W.cell? ⟨g, k * 12 + 8, none⟩ = some (.slice yyb yyk yye) ∧ W.cell? ⟨g, k * 12 + 9, none⟩ = some (.bool vvs) ∧ W.cell? ⟨g, k * 12 + 10, none⟩ = some (.slice vva vvl vvc) ∧ W.cell? ⟨g, k * 12 + 11, none⟩ = some (.slice vvb vvk vve))))
    (HCD : Hid (∀ W, Room b w13 W → Calls Tryz.prog 20 #[.agg #[.bool xxs, .slice xxa xxl xxc, .slice xxb xxk xxe, .bool uus, .slice uua uul uuc, .slice uub uuk uue], .agg #[.bool yys, .slice yya yyl yyc, .slice yyb yyk yye, .bool vvs, .slice vva vvl vvc, .slice vvb vvk vve]] W (GotV W (.int .i64 cq))))
    (HVX : Hid (∀ W, Room b w13 W → VQ (p.a + p.b * r) (ms, (ma, ml, mc), (mb, mk, me)) W)) (HVY : Hid (∀ W, Room b w13 W → VQ (p.e + p.f * r) (os, (oa, ol, oc), (ob, ok, oe)) W)) (HSX : Hid (szQ (p.a + p.b * r) ≤ 100)) (HSY : Hid (szQ (p.e + p.f * r) ≤ 100)) (HC2 : Hid (cmpQ (p.a + p.b * r) (p.e + p.f * r) = c2)) (hc20 : c2 ≤ 0) (hcle : cq ≤ 0) (hki : (k : Int) < (len : Int)) (hk0 : (0 : Int) ≤ (k : Int)) :
    Code.wp Tryz.prog (Code.region 26 #[{ dst := some 102, op := Op.move (Operand.tmp 5), type := 24, pos := "law.go:81", after := #[], guard := none }, { dst := some 103, op := Op.move (Operand.tmp 12), type := 3, pos := "law.go:81", after := #[], guard := none }, { dst := some 104, op := Op.indexAddr 24 (Operand.tmp 102) (Operand.tmp 103), type := 0, pos := "law.go:81", after := #[{ on := 0, ground := Ground.data }, { on := 1, ground := Ground.data }], guard := none }, { dst := some 105, op := Op.indexAddr 42 (Operand.tmp 104) (Operand.const (Value.int IntKind.i64 0)), type := 0, pos := "law.go:81", after := #[{ on := 2, ground := Ground.data }], guard := none }, { dst := some 106, op := Op.load 40 (Operand.tmp 105), type := 40, pos := "law.go:81", after := #[{ on := 3, ground := Ground.data }], guard := none }, { dst := some 107, op := Op.move (Operand.tmp 5), type := 24, pos := "law.go:81", after := #[], guard := none }, { dst := some 108, op := Op.move (Operand.tmp 12), type := 3, pos := "law.go:81", after := #[], guard := none }, { dst := some 109, op := Op.indexAddr 24 (Operand.tmp 107) (Operand.tmp 108), type := 0, pos := "law.go:81", after := #[{ on := 5, ground := Ground.data }, { on := 6, ground := Ground.data }], guard := none }, { dst := some 110, op := Op.indexAddr 42 (Operand.tmp 109) (Operand.const (Value.int IntKind.i64 1)), type := 0, pos := "law.go:81", after := #[{ on := 7, ground := Ground.data }], guard := none }, { dst := some 111, op := Op.load 40 (Operand.tmp 110), type := 40, pos := "law.go:81", after := #[{ on := 8, ground := Ground.data }], guard := none }, { dst := some 112, op := Op.call { callee := Callee.value (Operand.func 20), args := #[Operand.tmp 106, Operand.tmp 111], argTypes := #[40, 40] }, type := 3, pos := "law.go:81", after := #[{ on := 4, ground := Ground.data }, { on := 9, ground := Ground.data }], guard := none }, { dst := some 113, op := Op.binOp BinOp.leq 3 (Operand.tmp 112) (Operand.const (Value.int IntKind.i64 0)) 3, type := 4, pos := "law.go:81", after := #[{ on := 10, ground := Ground.data }], guard := none }, { dst := some 114, op := Op.move (Operand.tmp 113), type := 4, pos := "law.go:81", after := #[{ on := 11, ground := Ground.data }, { on := 10, ground := Ground.chain }], guard := none }, { dst := some 115, op := Op.load 30 (Operand.tmp 14), type := 30, pos := "law.go:81", after := #[{ on := 12, ground := Ground.guard }], guard := some (12, true) }, { dst := some 116, op := Op.call { callee := Callee.value (Operand.func 19), args := #[Operand.tmp 115], argTypes := #[30] }, type := 38, pos := "law.go:81", after := #[{ on := 13, ground := Ground.data }, { on := 12, ground := Ground.chain }, { on := 12, ground := Ground.guard }], guard := some (12, true) }, { dst := some 117, op := Op.load 30 (Operand.tmp 15), type := 30, pos := "law.go:81", after := #[{ on := 12, ground := Ground.guard }], guard := some (12, true) }, { dst := some 118, op := Op.call { callee := Callee.value (Operand.func 19), args := #[Operand.tmp 117], argTypes := #[30] }, type := 38, pos := "law.go:81", after := #[{ on := 15, ground := Ground.data }, { on := 14, ground := Ground.chain }, { on := 12, ground := Ground.guard }], guard := some (12, true) }, { dst := some 119, op := Op.call { callee := Callee.value (Operand.func 21), args := #[Operand.tmp 116, Operand.tmp 118], argTypes := #[38, 38] }, type := 3, pos := "law.go:81", after := #[{ on := 14, ground := Ground.data }, { on := 16, ground := Ground.data }, { on := 16, ground := Ground.chain }, { on := 12, ground := Ground.guard }], guard := some (12, true) }, { dst := some 120, op := Op.binOp BinOp.gtr 3 (Operand.tmp 119) (Operand.const (Value.int IntKind.i64 0)) 3, type := 4, pos := "law.go:81", after := #[{ on := 17, ground := Ground.data }, { on := 12, ground := Ground.guard }], guard := some (12, true) }, { dst := some 121, op := Op.pick (Operand.tmp 114) (Operand.tmp 120) (Operand.const (Value.bool false)), type := 4, pos := "law.go:81", after := #[{ on := 12, ground := Ground.data }, { on := 18, ground := Ground.data }], guard := none }] true) (OnlyEx (fun i : RawR × RawR => puts { tmps := #[s0, s1, s2, s3, s4, .slice (some ⟨g, 0, none⟩) len cap, s6, s7, s8, s9, s10, s11, .int .i64 (k : Int), s13, .pointer (some ⟨gx, 0, none⟩), .pointer (some ⟨gy, 0, none⟩), s16, s17, s18, s19, s20, s21, s22, s23, s24, s25, s26, s27, s28, s29, s30, s31, s32, s33, s34, s35, s36, s37, s38, s39, s40, s41, s42, s43, s44, s45, s46, s47, s48, s49, s50, s51, s52, s53, s54, s55, s56, s57, s58, s59, s60, s61, s62, s63, s64, s65, s66, s67, s68, s69, s70, s71, s72, s73, s74, s75, s76, s77, s78, s79, s80, s81, s82, s83, s84, s85, s86, s87, s88, s89, s90, s91, s92, s93, s94, s95, s96, s97, s98, s99, s100, s101, s102, s103, s104, s105, s106, s107, s108, s109, s110, s111, s112, s113, s114, s115, s116, s117, s118, s119, s120, s121, s122, s123], defers := [] } [(102, .slice (some ⟨g, 0, none⟩) len cap), (103, .int .i64 (k : Int)), (104, .pointer (some ⟨g, k * 12, none⟩)), (105, .pointer (some ⟨g, k * 12, none⟩)), (106, .agg #[.bool xxs, .slice xxa xxl xxc, .slice xxb xxk xxe, .bool uus, .slice uua uul uuc, .slice uub uuk uue]), (107, .slice (some ⟨g, 0, none⟩) len cap), (108, .int .i64 (k : Int)), (109, .pointer (some ⟨g, k * 12, none⟩)), (110, .pointer (some ⟨g, k * 12 + 6, none⟩)), (111, .agg #[.bool yys, .slice yya yyl yyc, .slice yyb yyk yye, .bool vvs, .slice vva vvl vvc, .slice vvb vvk vve]), (112, .int .i64 cq), (113, .bool true), (114, .bool true), (115, .agg #[.bool ms, .slice ma ml mc, .slice mb mk me]), (116, .agg #[.bool i.1.1, .slice i.1.2.1.1 i.1.2.1.2.1 i.1.2.1.2.2, .slice i.1.2.2.1 i.1.2.2.2.1 i.1.2.2.2.2]), (117, .agg #[.bool os, .slice oa ol oc, .slice ob ok oe]), (118, .agg #[.bool i.2.1, .slice i.2.2.1.1 i.2.2.1.2.1 i.2.2.1.2.2, .slice i.2.2.2.1 i.2.2.2.2.1 i.2.2.2.2.2]), (119, .int .i64 c2), (120, .bool (decide (0 < c2))), (121, .bool (decide (0 < c2)))]) (fun _ W => Room b w13 W)) { tmps := #[s0, s1, s2, s3, s4, .slice (some ⟨g, 0, none⟩) len cap, s6, s7, s8, s9, s10, s11, .int .i64 (k : Int), s13, .pointer (some ⟨gx, 0, none⟩), .pointer (some ⟨gy, 0, none⟩), s16, s17, s18, s19, s20, s21, s22, s23, s24, s25, s26, s27, s28, s29, s30, s31, s32, s33, s34, s35, s36, s37, s38, s39, s40, s41, s42, s43, s44, s45, s46, s47, s48, s49, s50, s51, s52, s53, s54, s55, s56, s57, s58, s59, s60, s61, s62, s63, s64, s65, s66, s67, s68, s69, s70, s71, s72, s73, s74, s75, s76, s77, s78, s79, s80, s81, s82, s83, s84, s85, s86, s87, s88, s89, s90, s91, s92, s93, s94, s95, s96, s97, s98, s99, s100, s101, s102, s103, s104, s105, s106, s107, s108, s109, s110, s111, s112, s113, s114, s115, s116, s117, s118, s119, s120, s121, s122, s123], defers := [] } w14 := by
  obtain ⟨t0, t1, t2, t3, t4, t5, t6, t7, t8, t9, t10, t11, t12, t13, t14, t15, t16, t17⟩ := HK26.out w14 HR24.out
  refine wp_region_held_drew (S := (fun w' => w'.cell? ⟨gx, 0, none⟩ = some (.bool ms) ∧ w'.cell? ⟨gx, 1, none⟩ = some (.slice ma ml mc) ∧ w'.cell? ⟨gx, 2, none⟩ = some (.slice mb mk me) ∧ w'.cell? ⟨gy, 0, none⟩ = some (.bool os) ∧ w'.cell? ⟨gy, 1, none⟩ = some (.slice oa ol oc) ∧ w'.cell? ⟨gy, 2, none⟩ = some (.slice ob ok oe) ∧ w'.cell? ⟨g, k * 12, none⟩ = some (.bool xxs) ∧ w'.cell? ⟨g, k * 12 + 1, none⟩ = some (.slice xxa xxl xxc) ∧ w'.cell? ⟨g, k * 12 + 2, none⟩ = some (.slice xxb xxk xxe) ∧ w'.cell? ⟨g, k * 12 + 3, none⟩ = some (.bool uus) ∧ w'.cell? ⟨g, k * 12 + 4, none⟩ = some (.slice uua uul uuc) ∧ w'.cell? ⟨g, k * 12 + 5, none⟩ = some (.slice uub uuk uue) ∧ w'.cell? ⟨g, k * 12 + 6, none⟩ = some (.bool yys) ∧ w'.cell? ⟨g, k * 12 + 7, none⟩ = some (.slice yya yyl yyc) ∧ w'.cell? ⟨g, k * 12 + 8, none⟩ = some (.slice yyb yyk yye) ∧ w'.cell? ⟨g, k * 12 + 9, none⟩ = some (.bool vvs) ∧ w'.cell? ⟨g, k * 12 + 10, none⟩ = some (.slice vva vvl vvc) ∧ w'.cell? ⟨g, k * 12 + 11, none⟩ = some (.slice vvb vvk vve))) (by kernel_rfl) ?_ (fun hHeld => ?_)
  · exact HK26.out _ HRD24.out
  refine wpAnyH_take (i := 0) (v := ?_) (by rfl) (by kernel_rfl) (by kernel_rfl) (by kernel_rfl) (by exact fun _ _ _ h => h) (Or.inl ⟨by rfl, ?_⟩) hHeld ?_
  rotate_left 1
  · intro w' hSw
    go_simp
    try with_reducible rfl
  try simp only [Act.put, List.setIfInBounds_toArray, List.set_cons_zero, List.set_cons_succ, List.getElem_toArray, List.getElem_cons_zero, List.getElem_cons_succ]
  refine wpAnyH_take (i := 1) (v := ?_) (by rfl) (by kernel_rfl) (by kernel_rfl) (by kernel_rfl) (by exact fun _ _ _ h => h) (Or.inl ⟨by rfl, ?_⟩) hHeld ?_
  rotate_left 1
  · intro w' hSw
    go_simp
    try with_reducible rfl
  try simp only [Act.put, List.setIfInBounds_toArray, List.set_cons_zero, List.set_cons_succ, List.getElem_toArray, List.getElem_cons_zero, List.getElem_cons_succ]
  refine wpAnyH_take (i := 2) (v := ?_) (by rfl) (by kernel_rfl) (by kernel_rfl) (by kernel_rfl) (by exact fun _ _ _ h => h) (Or.inl ⟨by rfl, ?_⟩) hHeld ?_
  rotate_left 1
  · intro w' hSw
    go_simp
    try with_reducible rfl
  try simp only [Act.put, List.setIfInBounds_toArray, List.set_cons_zero, List.set_cons_succ, List.getElem_toArray, List.getElem_cons_zero, List.getElem_cons_succ]
  refine wpAnyH_take (i := 3) (v := ?_) (by rfl) (by kernel_rfl) (by kernel_rfl) (by kernel_rfl) (by exact fun _ _ _ h => h) (Or.inl ⟨by rfl, ?_⟩) hHeld ?_
  rotate_left 1
  · intro w' hSw
    go_simp
    try with_reducible rfl
  try simp only [Act.put, List.setIfInBounds_toArray, List.set_cons_zero, List.set_cons_succ, List.getElem_toArray, List.getElem_cons_zero, List.getElem_cons_succ]
  refine wpAnyH_take (i := 4) (v := ?_) (by rfl) (by kernel_rfl) (by kernel_rfl) (by kernel_rfl) (by exact fun _ _ _ h => h) (Or.inl ⟨by rfl, ?_⟩) hHeld ?_
  rotate_left 1
  · intro w' hSw
    go_simp
    try with_reducible rfl
  try simp only [Act.put, List.setIfInBounds_toArray, List.set_cons_zero, List.set_cons_succ, List.getElem_toArray, List.getElem_cons_zero, List.getElem_cons_succ]
  refine wpAnyH_take (i := 5) (v := ?_) (by rfl) (by kernel_rfl) (by kernel_rfl) (by kernel_rfl) (by exact fun _ _ _ h => h) (Or.inl ⟨by rfl, ?_⟩) hHeld ?_
  rotate_left 1
  · intro w' hSw
    go_simp
    try with_reducible rfl
  try simp only [Act.put, List.setIfInBounds_toArray, List.set_cons_zero, List.set_cons_succ, List.getElem_toArray, List.getElem_cons_zero, List.getElem_cons_succ]
  refine wpAnyH_take (i := 6) (v := ?_) (by rfl) (by kernel_rfl) (by kernel_rfl) (by kernel_rfl) (by exact fun _ _ _ h => h) (Or.inl ⟨by rfl, ?_⟩) hHeld ?_
  rotate_left 1
  · intro w' hSw
    go_simp
    try with_reducible rfl
  try simp only [Act.put, List.setIfInBounds_toArray, List.set_cons_zero, List.set_cons_succ, List.getElem_toArray, List.getElem_cons_zero, List.getElem_cons_succ]
  refine wpAnyH_take (i := 7) (v := ?_) (by rfl) (by kernel_rfl) (by kernel_rfl) (by kernel_rfl) (by exact fun _ _ _ h => h) (Or.inl ⟨by rfl, ?_⟩) hHeld ?_
  rotate_left 1
  · intro w' hSw
    go_simp
    try with_reducible rfl
  try simp only [Act.put, List.setIfInBounds_toArray, List.set_cons_zero, List.set_cons_succ, List.getElem_toArray, List.getElem_cons_zero, List.getElem_cons_succ]
  refine wpAnyH_take (i := 8) (v := ?_) (by rfl) (by kernel_rfl) (by kernel_rfl) (by kernel_rfl) (by exact fun _ _ _ h => h) (Or.inl ⟨by rfl, ?_⟩) hHeld ?_
  rotate_left 1
  · intro w' hSw
    go_simp
    try with_reducible rfl
  try simp only [Act.put, List.setIfInBounds_toArray, List.set_cons_zero, List.set_cons_succ, List.getElem_toArray, List.getElem_cons_zero, List.getElem_cons_succ]
  refine wpAnyH_take (i := 9) (v := ?_) (by rfl) (by kernel_rfl) (by kernel_rfl) (by kernel_rfl) (by exact fun _ _ _ h => h) (Or.inl ⟨by rfl, ?_⟩) hHeld ?_
  rotate_left 1
  · intro w' hSw
    go_simp
    try with_reducible rfl
  try simp only [Act.put, List.setIfInBounds_toArray, List.set_cons_zero, List.set_cons_succ, List.getElem_toArray, List.getElem_cons_zero, List.getElem_cons_succ]
  refine wpAnyH_ready (rs := [10]) (by kernel_rfl) (by simp) ?_
  refine AllReadyH.cons (by rfl) (fun K hK => ?_) AllReadyH.nil
  go_simp
  with_reducible refine (HCD.out _ HRD24.out).mono ?_
  rintro e w301 ⟨rfl, G1⟩
  have HRa := Lib.hid (HRD24.out.kept G1.out)
  clear hHeld
  refine hK.out _ _ ?_ (fun hHeld => ?_)
  · exact HK26.out _ HRa.out
  clear hK K
  try simp only [Act.put, List.setIfInBounds_toArray, List.set_cons_zero, List.set_cons_succ, List.getElem_toArray, List.getElem_cons_zero, List.getElem_cons_succ]
  refine wpAnyH_take (i := 11) (v := ?_) (by rfl) (by kernel_rfl) (by kernel_rfl) (by kernel_rfl) (by exact fun _ _ _ h => h) (Or.inl ⟨by rfl, ?_⟩) hHeld ?_
  rotate_left 1
  · intro w' hSw
    go_simp
    try with_reducible rfl
  try simp only [Act.put, List.setIfInBounds_toArray, List.set_cons_zero, List.set_cons_succ, List.getElem_toArray, List.getElem_cons_zero, List.getElem_cons_succ]
  refine wpAnyH_take (i := 12) (v := ?_) (by rfl) (by kernel_rfl) (by kernel_rfl) (by kernel_rfl) (by exact fun _ _ _ h => h) (Or.inl ⟨by rfl, ?_⟩) hHeld ?_
  rotate_left 1
  · intro w' hSw
    go_simp
    try with_reducible rfl
  try simp only [Act.put, List.setIfInBounds_toArray, List.set_cons_zero, List.set_cons_succ, List.getElem_toArray, List.getElem_cons_zero, List.getElem_cons_succ]
  refine wpAnyH_take (i := 13) (v := ?_) (by rfl) (by kernel_rfl) (by kernel_rfl) (by kernel_rfl) (by exact fun _ _ _ h => h) (Or.inl ⟨by rfl, ?_⟩) hHeld ?_
  rotate_left 1
  · intro w' hSw
    go_simp
    try with_reducible rfl
  try simp only [Act.put, List.setIfInBounds_toArray, List.set_cons_zero, List.set_cons_succ, List.getElem_toArray, List.getElem_cons_zero, List.getElem_cons_succ]
  refine wpAnyH_take (i := 15) (v := ?_) (by rfl) (by kernel_rfl) (by kernel_rfl) (by kernel_rfl) (by exact fun _ _ _ h => h) (Or.inl ⟨by rfl, ?_⟩) hHeld ?_
  rotate_left 1
  · intro w' hSw
    go_simp
    try with_reducible rfl
  try simp only [Act.put, List.setIfInBounds_toArray, List.set_cons_zero, List.set_cons_succ, List.getElem_toArray, List.getElem_cons_zero, List.getElem_cons_succ]
  refine wpAnyH_ready (rs := [14]) (by kernel_rfl) (by simp) ?_
  refine AllReadyH.cons (by rfl) (fun K hK => ?_) AllReadyH.nil
  go_simp
  with_reducible refine (got_of (HVX.out _ HRa.out) HSX.out (Below.refl _ _)).mono ?_
  rintro e w302 ⟨fs, fa, fl, fc, fb, fk, fe, rfl, G2, V2⟩
  have HRb := Lib.hid (HRa.out.kept G2.out)
  clear hHeld
  refine hK.out _ _ ?_ (fun hHeld => ?_)
  · exact HK26.out _ HRb.out
  clear hK K
  try simp only [Act.put, List.setIfInBounds_toArray, List.set_cons_zero, List.set_cons_succ, List.getElem_toArray, List.getElem_cons_zero, List.getElem_cons_succ]
  refine wpAnyH_ready (rs := [16]) (by kernel_rfl) (by simp) ?_
  refine AllReadyH.cons (by rfl) (fun K hK => ?_) AllReadyH.nil
  go_simp
  with_reducible refine (got_of (HVY.out _ HRb.out) HSY.out (Below.refl _ _)).mono ?_
  rintro e w303 ⟨hs, ha, hl, hc, hb, hk, he, rfl, G3, V3⟩
  have HRc := Lib.hid (HRb.out.kept G3.out)
  clear hHeld
  refine hK.out _ _ ?_ (fun hHeld => ?_)
  · exact HK26.out _ HRc.out
  clear hK K
  try simp only [Act.put, List.setIfInBounds_toArray, List.set_cons_zero, List.set_cons_succ, List.getElem_toArray, List.getElem_cons_zero, List.getElem_cons_succ]
  refine wpAnyH_ready (rs := [17]) (by kernel_rfl) (by simp) ?_
  refine AllReadyH.cons (by rfl) (fun K hK => ?_) AllReadyH.nil
  go_simp
  with_reducible refine (got_cmp (V2.out.kept G3.out) V3.out HSX.out HSY.out (Below.refl _ _) HC2.out).mono ?_
  rintro e w304 ⟨rfl, G4⟩
  have HRd := Lib.hid (HRc.out.kept G4.out)
  clear hHeld
  refine hK.out _ _ ?_ (fun hHeld => ?_)
  · exact HK26.out _ HRd.out
  clear hK K
  try simp only [Act.put, List.setIfInBounds_toArray, List.set_cons_zero, List.set_cons_succ, List.getElem_toArray, List.getElem_cons_zero, List.getElem_cons_succ]
  refine wpAnyH_take (i := 18) (v := ?_) (by rfl) (by kernel_rfl) (by kernel_rfl) (by kernel_rfl) (by exact fun _ _ _ h => h) (Or.inl ⟨by rfl, ?_⟩) hHeld ?_
  rotate_left 1
  · intro w' hSw
    go_simp
    try with_reducible rfl
  try simp only [Act.put, List.setIfInBounds_toArray, List.set_cons_zero, List.set_cons_succ, List.getElem_toArray, List.getElem_cons_zero, List.getElem_cons_succ]
  refine wpAnyH_take (i := 19) (v := ?_) (by rfl) (by kernel_rfl) (by kernel_rfl) (by kernel_rfl) (by exact fun _ _ _ h => h) (Or.inl ⟨by rfl, ?_⟩) hHeld ?_
  rotate_left 1
  · intro w' hSw
    go_simp
    try with_reducible rfl
  try simp only [Act.put, List.setIfInBounds_toArray, List.set_cons_zero, List.set_cons_succ, List.getElem_toArray, List.getElem_cons_zero, List.getElem_cons_succ]
  refine wpAnyH_done (by kernel_rfl) ?_ _
  refine OnlyEx.mk' ?_
  with_reducible refine ⟨((fs, (fa, fl, fc), (fb, fk, fe)), (hs, (ha, hl, hc), (hb, hk, he))), ?_, HRd.out⟩
  simp only [puts, Act.put, List.setIfInBounds_toArray, List.set_cons_zero, List.set_cons_succ]
end Go.Proofs.YtknackfmepkiaaaGreatDoor

