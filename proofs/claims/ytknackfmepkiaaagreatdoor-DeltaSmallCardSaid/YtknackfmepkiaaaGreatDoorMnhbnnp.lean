/- By program out of: SmT26N, SmWalk. -/
import Derived.Test.YtknackfmepkiaaaGreatDoorMpbmkjd
import Derived.Test.YtknackfmepkiaaaGreatDoorMhjnkal
/-
  DeltaSmall: no pair turns round, in one region (not in order).
-/
set_option linter.unusedVariables false
set_option linter.unusedSimpArgs false
namespace Go.Proofs.YtknackfmepkiaaaGreatDoor
open Go.RowKit Rep


set_option maxRecDepth 100000 in
set_option maxHeartbeats 32000000 in
theorem smT26N {s0 s1 s2 s3 s4 s6 s7 s8 s9 s10 s11 s13 s16 s17 s18 s19 s20 s21 s22 s23 s24 s25 s26 s27 s28 s29 s30 s31 s32 s33 s34 s35 s36 s37 s38 s39 s40 s41 s42 s43 s44 s45 s46 s47 s48 s49 s50 s51 s52 s53 s54 s55 s56 s57 s58 s59 s60 s61 s62 s63 s64 s65 s66 s67 s68 s69 s70 s71 s72 s73 s74 s75 s76 s77 s78 s79 s80 s81 s82 s83 s84 s85 s86 s87 s88 s89 s90 s91 s92 s93 s94 s95 s96 s97 s98 s99 s100 s101 s102 s103 s104 s105 s106 s107 s108 s109 s110 s111 s112 s113 s114 s115 s116 s117 s118 s119 s120 s121 s122 s123 : Value} {b g gx gy k len cap : Nat} {ms os xxs uus yys vvs : Bool} {ma mb oa ob xxa xxb uua uub yya yyb vva vvb : Option Addr} {ml mc mk me ol oc ok oe xxl xxc xxk xxe uul uuc uuk uue yyl yyc yyk yye vvl vvc vvk vve : Nat} {w13 w14 : World} {p : PQ} {r : Rat} {cq c2 : Int} (HR24 : Hid (Room b w13 w14)) (HRD24 : Hid (Room b w13 w14.drew))
    (HK26 : Hid (∀ W, Room b w13 W → (W.cell? ⟨gx, 0, none⟩ = some (.bool ms) ∧ W.cell? ⟨gx, 1, none⟩ = some (.slice ma ml mc) ∧ W.cell? ⟨gx, 2, none⟩ = some (.slice mb mk me) ∧ W.cell? ⟨gy, 0, none⟩ = some (.bool os) ∧ W.cell? ⟨gy, 1, none⟩ = some (.slice oa ol oc) ∧ W.cell? ⟨gy, 2, none⟩ = some (.slice ob ok oe) ∧ W.cell? ⟨g, k * 12, none⟩ = some (.bool xxs) ∧ W.cell? ⟨g, k * 12 + 1, none⟩ = some (.slice xxa xxl xxc) ∧ W.cell? ⟨g, k * 12 + 2, none⟩ = some (.slice xxb xxk xxe) ∧ W.cell? ⟨g, k * 12 + 3, none⟩ = some (.bool uus) ∧ W.cell? ⟨g, k * 12 + 4, none⟩ = some (.slice uua uul uuc) ∧ W.cell? ⟨g, k * 12 + 5, none⟩ = some (.slice uub uuk uue) ∧ W.cell? ⟨g, k * 12 + 6, none⟩ = some (.bool yys) ∧ W.cell? ⟨g, k * 12 + 7, none⟩ = some (.slice yya yyl yyc) ∧ W.cell? ⟨g, k * 12 + 8, none⟩ = some (.slice yyb yyk yye) ∧ W.cell? ⟨g, k * 12 + 9, none⟩ = some (.bool vvs) ∧ W.cell? ⟨g, k * 12 + 10, none⟩ = some (.slice vva vvl vvc) ∧ W.cell? ⟨g, k * 12 + 11, none⟩ = some (.slice vvb vvk vve))))
    (HCD : Hid (∀ W, Room b w13 W → Calls Tryz.prog 20 #[.agg #[.bool xxs, .slice xxa xxl xxc, .slice xxb xxk xxe, .bool uus, .slice uua uul uuc, .slice uub uuk uue], .agg #[.bool yys, .slice yya yyl yyc, .slice yyb yyk yye, .bool vvs, .slice vva vvl vvc, .slice vvb vvk vve]] W (GotV W (.int .i64 cq))))
    (HVX : Hid (∀ W, Room b w13 W → VQ (p.a + p.b * r) (ms, (ma, ml, mc), (mb, mk, me)) W)) (HVY : Hid (∀ W, Room b w13 W → VQ (p.e + p.f * r) (os, (oa, ol, oc), (ob, ok, oe)) W)) (HSX : Hid (szQ (p.a + p.b * r) ≤ 100)) (HSY : Hid (szQ (p.e + p.f * r) ≤ 100)) (hcn : ¬ cq ≤ 0) (hki : (k : Int) < (len : Int)) (hk0 : (0 : Int) ≤ (k : Int)) :
    Code.wp Tryz.prog (Code.region 26 #[{ dst := some 102, op := Op.move (Operand.tmp 5), type := 24, pos := "law.go:81", after := #[], guard := none }, { dst := some 103, op := Op.move (Operand.tmp 12), type := 3, pos := "law.go:81", after := #[], guard := none }, { dst := some 104, op := Op.indexAddr 24 (Operand.tmp 102) (Operand.tmp 103), type := 0, pos := "law.go:81", after := #[{ on := 0, ground := Ground.data }, { on := 1, ground := Ground.data }], guard := none }, { dst := some 105, op := Op.indexAddr 42 (Operand.tmp 104) (Operand.const (Value.int IntKind.i64 0)), type := 0, pos := "law.go:81", after := #[{ on := 2, ground := Ground.data }], guard := none }, { dst := some 106, op := Op.load 40 (Operand.tmp 105), type := 40, pos := "law.go:81", after := #[{ on := 3, ground := Ground.data }], guard := none }, { dst := some 107, op := Op.move (Operand.tmp 5), type := 24, pos := "law.go:81", after := #[], guard := none }, { dst := some 108, op := Op.move (Operand.tmp 12), type := 3, pos := "law.go:81", after := #[], guard := none }, { dst := some 109, op := Op.indexAddr 24 (Operand.tmp 107) (Operand.tmp 108), type := 0, pos := "law.go:81", after := #[{ on := 5, ground := Ground.data }, { on := 6, ground := Ground.data }], guard := none }, { dst := some 110, op := Op.indexAddr 42 (Operand.tmp 109) (Operand.const (Value.int IntKind.i64 1)), type := 0, pos := "law.go:81", after := #[{ on := 7, ground := Ground.data }], guard := none }, { dst := some 111, op := Op.load 40 (Operand.tmp 110), type := 40, pos := "law.go:81", after := #[{ on := 8, ground := Ground.data }], guard := none }, { dst := some 112, op := Op.call { callee := Callee.value (Operand.func 20), args := #[Operand.tmp 106, Operand.tmp 111], argTypes := #[40, 40] }, type := 3, pos := "law.go:81", after := #[{ on := 4, ground := Ground.data }, { on := 9, ground := Ground.data }], guard := none }, { dst := some 113, op := Op.binOp BinOp.leq 3 (Operand.tmp 112) (Operand.const (Value.int IntKind.i64 0)) 3, type := 4, pos := "law.go:81", after := #[{ on := 10, ground := Ground.data }], guard := none }, { dst := some 114, op := Op.move (Operand.tmp 113), type := 4, pos := "law.go:81", after := #[{ on := 11, ground := Ground.data }, { on := 10, ground := Ground.chain }], guard := none }, { dst := some 115, op := Op.load 30 (Operand.tmp 14), type := 30, pos := "law.go:81", after := #[{ on := 12, ground := Ground.guard }], guard := some (12, true) }, { dst := some 116, op := Op.call { callee := Callee.value (Operand.func 19), args := #[Operand.tmp 115], argTypes := #[30] }, type := 38, pos := "law.go:81", after := #[{ on := 13, ground := Ground.data }, { on := 12, ground := Ground.chain }, { on := 12, ground := Ground.guard }], guard := some (12, true) }, { dst := some 117, op := Op.load 30 (Operand.tmp 15), type := 30, pos := "law.go:81", after := #[{ on := 12, ground := Ground.guard }], guard := some (12, true) }, { dst := some 118, op := Op.call { callee := Callee.value (Operand.func 19), args := #[Operand.tmp 117], argTypes := #[30] }, type := 38, pos := "law.go:81", after := #[{ on := 15, ground := Ground.data }, { on := 14, ground := Ground.chain }, { on := 12, ground := Ground.guard }], guard := some (12, true) }, { dst := some 119, op := Op.call { callee := Callee.value (Operand.func 21), args := #[Operand.tmp 116, Operand.tmp 118], argTypes := #[38, 38] }, type := 3, pos := "law.go:81", after := #[{ on := 14, ground := Ground.data }, { on := 16, ground := Ground.data }, { on := 16, ground := Ground.chain }, { on := 12, ground := Ground.guard }], guard := some (12, true) }, { dst := some 120, op := Op.binOp BinOp.gtr 3 (Operand.tmp 119) (Operand.const (Value.int IntKind.i64 0)) 3, type := 4, pos := "law.go:81", after := #[{ on := 17, ground := Ground.data }, { on := 12, ground := Ground.guard }], guard := some (12, true) }, { dst := some 121, op := Op.pick (Operand.tmp 114) (Operand.tmp 120) (Operand.const (Value.bool false)), type := 4, pos := "law.go:81", after := #[{ on := 12, ground := Ground.data }, { on := 18, ground := Ground.data }], guard := none }] true) (OnlyEx (fun i : RawR × RawR => puts { tmps := #[s0, s1, s2, s3, s4, .slice (some ⟨g, 0, none⟩) len cap, s6, s7, s8, s9, s10, s11, .int .i64 (k : Int), s13, .pointer (some ⟨gx, 0, none⟩), .pointer (some ⟨gy, 0, none⟩), s16, s17, s18, s19, s20, s21, s22, s23, s24, s25, s26, s27, s28, s29, s30, s31, s32, s33, s34, s35, s36, s37, s38, s39, s40, s41, s42, s43, s44, s45, s46, s47, s48, s49, s50, s51, s52, s53, s54, s55, s56, s57, s58, s59, s60, s61, s62, s63, s64, s65, s66, s67, s68, s69, s70, s71, s72, s73, s74, s75, s76, s77, s78, s79, s80, s81, s82, s83, s84, s85, s86, s87, s88, s89, s90, s91, s92, s93, s94, s95, s96, s97, s98, s99, s100, s101, s102, s103, s104, s105, s106, s107, s108, s109, s110, s111, s112, s113, s114, s115, s116, s117, s118, s119, s120, s121, s122, s123], defers := [] } [(102, .slice (some ⟨g, 0, none⟩) len cap), (103, .int .i64 (k : Int)), (104, .pointer (some ⟨g, k * 12, none⟩)), (105, .pointer (some ⟨g, k * 12, none⟩)), (106, .agg #[.bool xxs, .slice xxa xxl xxc, .slice xxb xxk xxe, .bool uus, .slice uua uul uuc, .slice uub uuk uue]), (107, .slice (some ⟨g, 0, none⟩) len cap), (108, .int .i64 (k : Int)), (109, .pointer (some ⟨g, k * 12, none⟩)), (110, .pointer (some ⟨g, k * 12 + 6, none⟩)), (111, .agg #[.bool yys, .slice yya yyl yyc, .slice yyb yyk yye, .bool vvs, .slice vva vvl vvc, .slice vvb vvk vve]), (112, .int .i64 cq), (113, .bool false), (114, .bool false), (115, undef), (116, undef), (117, undef), (118, undef), (119, undef), (120, undef), (121, .bool false)]) (fun _ W => Room b w13 W)) { tmps := #[s0, s1, s2, s3, s4, .slice (some ⟨g, 0, none⟩) len cap, s6, s7, s8, s9, s10, s11, .int .i64 (k : Int), s13, .pointer (some ⟨gx, 0, none⟩), .pointer (some ⟨gy, 0, none⟩), s16, s17, s18, s19, s20, s21, s22, s23, s24, s25, s26, s27, s28, s29, s30, s31, s32, s33, s34, s35, s36, s37, s38, s39, s40, s41, s42, s43, s44, s45, s46, s47, s48, s49, s50, s51, s52, s53, s54, s55, s56, s57, s58, s59, s60, s61, s62, s63, s64, s65, s66, s67, s68, s69, s70, s71, s72, s73, s74, s75, s76, s77, s78, s79, s80, s81, s82, s83, s84, s85, s86, s87, s88, s89, s90, s91, s92, s93, s94, s95, s96, s97, s98, s99, s100, s101, s102, s103, s104, s105, s106, s107, s108, s109, s110, s111, s112, s113, s114, s115, s116, s117, s118, s119, s120, s121, s122, s123], defers := [] } w14 := by
  obtain ⟨t0, t1, t2, t3, t4, t5, t6, t7, t8, t9, t10, t11, t12, t13, t14, t15, t16, t17⟩ := HK26.out w14 HR24.out
  refine wp_region_held_drew (S := (fun w' => w'.cell? ⟨gx, 0, none⟩ = some (.bool ms) ∧ w'.cell? ⟨gx, 1, none⟩ = some (.slice ma ml mc) ∧ w'.cell? ⟨gx, 2, none⟩ = some (.slice mb mk me) ∧ w'.cell? ⟨gy, 0, none⟩ = some (.bool os) ∧ w'.cell? ⟨gy, 1, none⟩ = some (.slice oa ol oc) ∧ w'.cell? ⟨gy, 2, none⟩ = some (.slice ob ok oe) ∧ w'.cell? ⟨g, k * 12, none⟩ = some (.bool xxs) ∧ w'.cell? ⟨g, k * 12 + 1, none⟩ = some (.slice xxa xxl xxc) ∧ w'.cell? ⟨g, k * 12 + 2, none⟩ = some (.slice xxb xxk xxe) ∧ w'.cell? ⟨g, k * 12 + 3, none⟩ = some (.bool uus) ∧ w'.cell? ⟨g, k * 12 + 4, none⟩ = some (.slice uua uul uuc) ∧ w'.cell? ⟨g, k * 12 + 5, none⟩ = some (.slice uub uuk uue) ∧ w'.cell? ⟨g, k * 12 + 6, none⟩ = some (.bool yys) ∧ w'.cell? ⟨g, k * 12 + 7, none⟩ = some (.slice yya yyl yyc) ∧ w'.cell? ⟨g, k * 12 + 8, none⟩ = some (.slice yyb yyk yye) ∧ w'.cell? ⟨g, k * 12 + 9, none⟩ = some (.bool vvs) ∧ w'.cell? ⟨g, k * 12 + 10, none⟩ = some (.slice vva vvl vvc) ∧ w'.cell? ⟨g, k * 12 + 11, none⟩ = some (.slice vvb vvk vve))) (by kernel_rfl) ?_ (fun hHeld => ?_)
  · exact HK26.out _ HRD24.out
  refine wpAnyH_take (i := 0) (v := ?_) (by rfl) (by kernel_rfl) (by kernel_rfl) (by kernel_rfl) (by exact fun _ _ _ h => h) (Or.inl ⟨by rfl, ?_⟩) hHeld ?_
  rotate_left 1
  · intro w' hSw
    go_simp
    try with_reducible rfl
  try simp only [Act.put, List.setIfInBounds_toArray, List.set_cons_zero, List.set_cons_succ, List.getElem_toArray, List.getElem_cons_zero, List.getElem_cons_succ]
  refine wpAnyH_take (i := 1) (v := ?_) (by rfl) (by kernel_rfl) (by kernel_rfl) (by kernel_rfl) (by exact fun _ _ _ h => h) (Or.inl ⟨by rfl, ?_⟩) hHeld ?_
  rotate_left 1
  · intro w' hSw
    go_simp
    try with_reducible rfl
  try simp only [Act.put, List.setIfInBounds_toArray, List.set_cons_zero, List.set_cons_succ, List.getElem_toArray, List.getElem_cons_zero, List.getElem_cons_succ]
  refine wpAnyH_take (i := 2) (v := ?_) (by rfl) (by kernel_rfl) (by kernel_rfl) (by kernel_rfl) (by exact fun _ _ _ h => h) (Or.inl ⟨by rfl, ?_⟩) hHeld ?_
  rotate_left 1
  · intro w' hSw
    go_simp
    try with_reducible rfl
  try simp only [Act.put, List.setIfInBounds_toArray, List.set_cons_zero, List.set_cons_succ, List.getElem_toArray, List.getElem_cons_zero, List.getElem_cons_succ]
  refine wpAnyH_take (i := 3) (v := ?_) (by rfl) (by kernel_rfl) (by kernel_rfl) (by kernel_rfl) (by exact fun _ _ _ h => h) (Or.inl ⟨by rfl, ?_⟩) hHeld ?_
  rotate_left 1
  · intro w' hSw
    go_simp
    try with_reducible rfl
  try simp only [Act.put, List.setIfInBounds_toArray, List.set_cons_zero, List.set_cons_succ, List.getElem_toArray, List.getElem_cons_zero, List.getElem_cons_succ]
  refine wpAnyH_take (i := 4) (v := ?_) (by rfl) (by kernel_rfl) (by kernel_rfl) (by kernel_rfl) (by exact fun _ _ _ h => h) (Or.inl ⟨by rfl, ?_⟩) hHeld ?_
  rotate_left 1
  · intro w' hSw
    go_simp
    try with_reducible rfl
  try simp only [Act.put, List.setIfInBounds_toArray, List.set_cons_zero, List.set_cons_succ, List.getElem_toArray, List.getElem_cons_zero, List.getElem_cons_succ]
  refine wpAnyH_take (i := 5) (v := ?_) (by rfl) (by kernel_rfl) (by kernel_rfl) (by kernel_rfl) (by exact fun _ _ _ h => h) (Or.inl ⟨by rfl, ?_⟩) hHeld ?_
  rotate_left 1
  · intro w' hSw
    go_simp
    try with_reducible rfl
  try simp only [Act.put, List.setIfInBounds_toArray, List.set_cons_zero, List.set_cons_succ, List.getElem_toArray, List.getElem_cons_zero, List.getElem_cons_succ]
  refine wpAnyH_take (i := 6) (v := ?_) (by rfl) (by kernel_rfl) (by kernel_rfl) (by kernel_rfl) (by exact fun _ _ _ h => h) (Or.inl ⟨by rfl, ?_⟩) hHeld ?_
  rotate_left 1
  · intro w' hSw
    go_simp
    try with_reducible rfl
  try simp only [Act.put, List.setIfInBounds_toArray, List.set_cons_zero, List.set_cons_succ, List.getElem_toArray, List.getElem_cons_zero, List.getElem_cons_succ]
  refine wpAnyH_take (i := 7) (v := ?_) (by rfl) (by kernel_rfl) (by kernel_rfl) (by kernel_rfl) (by exact fun _ _ _ h => h) (Or.inl ⟨by rfl, ?_⟩) hHeld ?_
  rotate_left 1
  · intro w' hSw
    go_simp
    try with_reducible rfl
  try simp only [Act.put, List.setIfInBounds_toArray, List.set_cons_zero, List.set_cons_succ, List.getElem_toArray, List.getElem_cons_zero, List.getElem_cons_succ]
  refine wpAnyH_take (i := 8) (v := ?_) (by rfl) (by kernel_rfl) (by kernel_rfl) (by kernel_rfl) (by exact fun _ _ _ h => h) (Or.inl ⟨by rfl, ?_⟩) hHeld ?_
  rotate_left 1
  · intro w' hSw
    go_simp
    try with_reducible rfl
  try simp only [Act.put, List.setIfInBounds_toArray, List.set_cons_zero, List.set_cons_succ, List.getElem_toArray, List.getElem_cons_zero, List.getElem_cons_succ]
  refine wpAnyH_take (i := 9) (v := ?_) (by rfl) (by kernel_rfl) (by kernel_rfl) (by kernel_rfl) (by exact fun _ _ _ h => h) (Or.inl ⟨by rfl, ?_⟩) hHeld ?_
  rotate_left 1
  · intro w' hSw
    go_simp
    try with_reducible rfl
  try simp only [Act.put, List.setIfInBounds_toArray, List.set_cons_zero, List.set_cons_succ, List.getElem_toArray, List.getElem_cons_zero, List.getElem_cons_succ]
  refine wpAnyH_ready (rs := [10]) (by kernel_rfl) (by simp) ?_
  refine AllReadyH.cons (by rfl) (fun K hK => ?_) AllReadyH.nil
  go_simp
  with_reducible refine (HCD.out _ HRD24.out).mono ?_
  rintro e w301 ⟨rfl, G1⟩
  have HRa := Lib.hid (HRD24.out.kept G1.out)
  clear hHeld
  refine hK.out _ _ ?_ (fun hHeld => ?_)
  · exact HK26.out _ HRa.out
  clear hK K
  try simp only [Act.put, List.setIfInBounds_toArray, List.set_cons_zero, List.set_cons_succ, List.getElem_toArray, List.getElem_cons_zero, List.getElem_cons_succ]
  refine wpAnyH_take (i := 11) (v := ?_) (by rfl) (by kernel_rfl) (by kernel_rfl) (by kernel_rfl) (by exact fun _ _ _ h => h) (Or.inl ⟨by rfl, ?_⟩) hHeld ?_
  rotate_left 1
  · intro w' hSw
    go_simp
    try with_reducible rfl
  try simp only [Act.put, List.setIfInBounds_toArray, List.set_cons_zero, List.set_cons_succ, List.getElem_toArray, List.getElem_cons_zero, List.getElem_cons_succ]
  refine wpAnyH_take (i := 12) (v := ?_) (by rfl) (by kernel_rfl) (by kernel_rfl) (by kernel_rfl) (by exact fun _ _ _ h => h) (Or.inl ⟨by rfl, ?_⟩) hHeld ?_
  rotate_left 1
  · intro w' hSw
    go_simp
    try with_reducible rfl
  try simp only [Act.put, List.setIfInBounds_toArray, List.set_cons_zero, List.set_cons_succ, List.getElem_toArray, List.getElem_cons_zero, List.getElem_cons_succ]
  first
    | (refine wpAnyH_take (i := 13) (v := undef) (by rfl) (by kernel_rfl) (by kernel_rfl) (by kernel_rfl) (by exact fun _ _ _ h => h) (Or.inr ⟨by rfl, rfl⟩) hHeld ?_; try simp only [Act.put, List.setIfInBounds_toArray, List.set_cons_zero, List.set_cons_succ, List.getElem_toArray, List.getElem_cons_zero, List.getElem_cons_succ])
    | (refine wpAnyH_ready (rs := [13]) (by kernel_rfl) (by simp) ?_; refine AllReadyH.cons (by rfl) (fun K hK => ?_) AllReadyH.nil; refine skip_op (by rfl) ?_; refine hK.out _ _ hHeld (fun hHeld => ?_); clear hK K; try simp only [Act.put, List.setIfInBounds_toArray, List.set_cons_zero, List.set_cons_succ, List.getElem_toArray, List.getElem_cons_zero, List.getElem_cons_succ])
  first
    | (refine wpAnyH_take (i := 15) (v := undef) (by rfl) (by kernel_rfl) (by kernel_rfl) (by kernel_rfl) (by exact fun _ _ _ h => h) (Or.inr ⟨by rfl, rfl⟩) hHeld ?_; try simp only [Act.put, List.setIfInBounds_toArray, List.set_cons_zero, List.set_cons_succ, List.getElem_toArray, List.getElem_cons_zero, List.getElem_cons_succ])
    | (refine wpAnyH_ready (rs := [15]) (by kernel_rfl) (by simp) ?_; refine AllReadyH.cons (by rfl) (fun K hK => ?_) AllReadyH.nil; refine skip_op (by rfl) ?_; refine hK.out _ _ hHeld (fun hHeld => ?_); clear hK K; try simp only [Act.put, List.setIfInBounds_toArray, List.set_cons_zero, List.set_cons_succ, List.getElem_toArray, List.getElem_cons_zero, List.getElem_cons_succ])
  first
    | (refine wpAnyH_take (i := 14) (v := undef) (by rfl) (by kernel_rfl) (by kernel_rfl) (by kernel_rfl) (by exact fun _ _ _ h => h) (Or.inr ⟨by rfl, rfl⟩) hHeld ?_; try simp only [Act.put, List.setIfInBounds_toArray, List.set_cons_zero, List.set_cons_succ, List.getElem_toArray, List.getElem_cons_zero, List.getElem_cons_succ])
    | (refine wpAnyH_ready (rs := [14]) (by kernel_rfl) (by simp) ?_; refine AllReadyH.cons (by rfl) (fun K hK => ?_) AllReadyH.nil; refine skip_op (by rfl) ?_; refine hK.out _ _ hHeld (fun hHeld => ?_); clear hK K; try simp only [Act.put, List.setIfInBounds_toArray, List.set_cons_zero, List.set_cons_succ, List.getElem_toArray, List.getElem_cons_zero, List.getElem_cons_succ])
  first
    | (refine wpAnyH_take (i := 16) (v := undef) (by rfl) (by kernel_rfl) (by kernel_rfl) (by kernel_rfl) (by exact fun _ _ _ h => h) (Or.inr ⟨by rfl, rfl⟩) hHeld ?_; try simp only [Act.put, List.setIfInBounds_toArray, List.set_cons_zero, List.set_cons_succ, List.getElem_toArray, List.getElem_cons_zero, List.getElem_cons_succ])
    | (refine wpAnyH_ready (rs := [16]) (by kernel_rfl) (by simp) ?_; refine AllReadyH.cons (by rfl) (fun K hK => ?_) AllReadyH.nil; refine skip_op (by rfl) ?_; refine hK.out _ _ hHeld (fun hHeld => ?_); clear hK K; try simp only [Act.put, List.setIfInBounds_toArray, List.set_cons_zero, List.set_cons_succ, List.getElem_toArray, List.getElem_cons_zero, List.getElem_cons_succ])
  first
    | (refine wpAnyH_take (i := 17) (v := undef) (by rfl) (by kernel_rfl) (by kernel_rfl) (by kernel_rfl) (by exact fun _ _ _ h => h) (Or.inr ⟨by rfl, rfl⟩) hHeld ?_; try simp only [Act.put, List.setIfInBounds_toArray, List.set_cons_zero, List.set_cons_succ, List.getElem_toArray, List.getElem_cons_zero, List.getElem_cons_succ])
    | (refine wpAnyH_ready (rs := [17]) (by kernel_rfl) (by simp) ?_; refine AllReadyH.cons (by rfl) (fun K hK => ?_) AllReadyH.nil; refine skip_op (by rfl) ?_; refine hK.out _ _ hHeld (fun hHeld => ?_); clear hK K; try simp only [Act.put, List.setIfInBounds_toArray, List.set_cons_zero, List.set_cons_succ, List.getElem_toArray, List.getElem_cons_zero, List.getElem_cons_succ])
  first
    | (refine wpAnyH_take (i := 18) (v := undef) (by rfl) (by kernel_rfl) (by kernel_rfl) (by kernel_rfl) (by exact fun _ _ _ h => h) (Or.inr ⟨by rfl, rfl⟩) hHeld ?_; try simp only [Act.put, List.setIfInBounds_toArray, List.set_cons_zero, List.set_cons_succ, List.getElem_toArray, List.getElem_cons_zero, List.getElem_cons_succ])
    | (refine wpAnyH_ready (rs := [18]) (by kernel_rfl) (by simp) ?_; refine AllReadyH.cons (by rfl) (fun K hK => ?_) AllReadyH.nil; refine skip_op (by rfl) ?_; refine hK.out _ _ hHeld (fun hHeld => ?_); clear hK K; try simp only [Act.put, List.setIfInBounds_toArray, List.set_cons_zero, List.set_cons_succ, List.getElem_toArray, List.getElem_cons_zero, List.getElem_cons_succ])
  refine wpAnyH_take (i := 19) (v := ?_) (by rfl) (by kernel_rfl) (by kernel_rfl) (by kernel_rfl) (by exact fun _ _ _ h => h) (Or.inl ⟨by rfl, ?_⟩) hHeld ?_
  rotate_left 1
  · intro w' hSw
    go_simp
    try with_reducible rfl
  try simp only [Act.put, List.setIfInBounds_toArray, List.set_cons_zero, List.set_cons_succ, List.getElem_toArray, List.getElem_cons_zero, List.getElem_cons_succ]
  refine wpAnyH_done (by kernel_rfl) ?_ _
  refine OnlyEx.mk' ?_
  with_reducible refine ⟨((ms, (ma, ml, mc), (mb, mk, me)), (os, (oa, ol, oc), (ob, ok, oe))), ?_, HRa.out⟩
  simp only [puts, Act.put, List.setIfInBounds_toArray, List.set_cons_zero, List.set_cons_succ]
end Go.Proofs.YtknackfmepkiaaaGreatDoor


/-
  DeltaSmall: the law's walk.
-/
set_option linter.unusedVariables false
set_option linter.unusedSimpArgs false
namespace Go.Proofs.YtknackfmepkiaaaGreatDoor
open Go.RowKit Rep


set_option maxRecDepth 100000 in
set_option maxHeartbeats 32000000 in
theorem small_walk {a : Option Addr} {c : Nat} {ts : List HP} {n : Int} {w : World} (hp : PairsIn w a c ts) (hh : ∀ p ∈ ts, HandD w p.1 ∧ HandD w p.2) (hT : Tab w) (hn1 : -9223372036854775808 ≤ n) (hn2 : n ≤ 9223372036854775807) :
    Calls Tryz.prog 3 #[.slice a ts.length c, .int .i64 n] w (Holds w) := by
  have HSP := Lib.hid (speaks03 hT)
  by_cases h20 : (20 : Int) < (ts.length : Int)
  · clear hp hh hT hn1 hn2
    go_enter Tryz.func3, Tryz.ntmps3
    go_wp2_with fail
    refine HSP.out.mono ?_
    rintro e w1 ⟨rfl, hb1⟩
    have HE := Lib.hid hb1
    clear HSP hb1
    go_wp2_with fail
    go_ret
    exact ⟨rfl, HE.out⟩
  have hl20 : ts.length ≤ 20 := by omega
  have HLT := Lib.hid (hand_letters hp hh)
  have HVP : Hid (∀ W, Below w.heap.size w W → (∀ p ∈ ts, odd2 p = false) → ∀ p ∈ ts, VP W p (pqOf p)) := Lib.hid fun W hb ho p hm => (vp_of_hand (hh p hm).1 (hh p hm).2 (ho p hm)).kept hb
  have HPI := Lib.hid hp
  have HT := Lib.hid hT
  have HN := Lib.hid (And.intro hn1 hn2)
  clear hp hh hT hn1 hn2
  go_enter Tryz.func3, Tryz.ntmps3
  go_wp2_with fail
  refine HSP.out.mono ?_
  rintro e w1 ⟨rfl, hb1⟩
  have HST0 := Lib.hid (LpAt.start ts hb1)
  clear HSP hb1
  go_wp2_with fail
  generalize w1.heap.size = g0 at *
  go_loopw [5, 24] (fun sv iv wr => ∃ (k g cap : Nat) (vs0 : List R4), k ≤ ts.length ∧ sv = .slice (some ⟨g, 0, none⟩) k cap ∧ iv = .int .i64 k ∧ Hid (LpAt w ts k g cap vs0 wr)) (fun _ iv _ => ts.length - (intOf iv).toNat)
  case atStart => exact ⟨0, _, 0, [], Nat.zero_le _, rfl, rfl, HST0⟩
  case round =>
    obtain ⟨k, g, cap, vs0, hk, rfl, rfl, HST⟩ := hrel
    by_cases hlt : k < ts.length
    · obtain ⟨ga, off, xs, xa, xl, xc, xb, xk, xe, us, ua, ul, uc, ub, uk, ue, ys, ya, yl, yc, yb, yk, ye, vs, va, vl, vc, vb, vk, ve, rfl, hcl, hodd, hvq⟩ := HLT.out k hlt
      obtain ⟨d0, d1, d2, d3, d4, d5, d6, d7, d8, d9, d10, d11⟩ := hcl _ HST.out.below
      have hgr : ga < wr.heap.size := World.block_lt_of_cell? _ _ d0
      obtain ⟨w4, hw4, hb4, f0, f1, hs4⟩ := boxes2 wr #[.bool xs, .slice xa xl xc, .slice xb xk xe, .bool us, .slice ua ul uc, .slice ub uk ue, .bool ys, .slice ya yl yc, .slice yb yk ye, .bool vs, .slice va vl vc, .slice vb vk ve] #[.bool xs, .slice xa xl xc, .slice xb xk xe, .bool us, .slice ua ul uc, .slice ub uk ue, .bool ys, .slice ya yl yc, .slice yb yk ye, .bool vs, .slice va vl vc, .slice vb vk ve] 33 32
      have hbw4 := HST.out.below.trans (hb4.mono HST.out.below.size)
      obtain ⟨o, ho⟩ : ∃ o, odd2 ts[k] = o := ⟨_, rfl⟩
      have hod := hodd w4 (wr.heap.size + 1) hbw4 f1
      rw [ho] at hod
      have HOD := Lib.hid hod
      have HW4 := Lib.hid hw4
      have HB4 := Lib.hid hb4
      have HBW4 := Lib.hid hbw4
      have HLK := Lib.hid (HLT.out k hlt)
      have HF0 := Lib.hid f0
      have HVQ := Lib.hid hvq
      have HO := Lib.hid ho
      clear hw4 hb4 hbw4 f0 f1 hs4 hod hodd hvq hcl ho
      go_wp2_with fail
      rw [← HW4.out]
      cases o
      case true =>
        refine HOD.out.mono ?_
        rintro e w5 ⟨rfl, h5⟩
        have HE := Lib.hid (HBW4.out.trans (h5.mono HBW4.out.size))
        clear h5 HOD HVQ HLK HST HF0
        go_wp2_with fail
        go_ret
        exact ⟨rfl, HE.out⟩
      case false =>
      refine HOD.out.mono ?_
      rintro e w5 ⟨rfl, h5⟩
      have hbr5 : Below wr.heap.size wr w5 := HB4.out.trans (h5.mono HB4.out.size)
      have HBR5 := Lib.hid hbr5
      have HJ : Hid (∀ W, Below w5.heap.size w5 W → (W.cell? ⟨wr.heap.size, 0, none⟩ = some (.bool xs) ∧ W.cell? ⟨wr.heap.size, 1, none⟩ = some (.slice xa xl xc) ∧ W.cell? ⟨wr.heap.size, 2, none⟩ = some (.slice xb xk xe) ∧ W.cell? ⟨wr.heap.size, 3, none⟩ = some (.bool us) ∧ W.cell? ⟨wr.heap.size, 4, none⟩ = some (.slice ua ul uc) ∧ W.cell? ⟨wr.heap.size, 5, none⟩ = some (.slice ub uk ue) ∧ W.cell? ⟨wr.heap.size, 6, none⟩ = some (.bool ys) ∧ W.cell? ⟨wr.heap.size, 7, none⟩ = some (.slice ya yl yc) ∧ W.cell? ⟨wr.heap.size, 8, none⟩ = some (.slice yb yk ye) ∧ W.cell? ⟨wr.heap.size, 9, none⟩ = some (.bool vs) ∧ W.cell? ⟨wr.heap.size, 10, none⟩ = some (.slice va vl vc) ∧ W.cell? ⟨wr.heap.size, 11, none⟩ = some (.slice vb vk ve))) := Lib.hid fun W h => cells12 (stay (stay HF0.out h5) h)
      have HVK := Lib.hid (HVQ.out HO.out)
      have HBW5 := Lib.hid (HBW4.out.trans (h5.mono HBW4.out.size))
      have HO1 : Hid (∀ W, Below w5.heap.size w5 W → Calls Tryz.prog 8 #[.agg #[.bool xs, .slice xa xl xc, .slice xb xk xe, .bool us, .slice ua ul uc, .slice ub uk ue]] W (GotDD W (pqOf ts[k]).a (pqOf ts[k]).b)) := Lib.hid fun W h => by
        obtain ⟨v1, v2, v3, v4⟩ := HVK.out.1 W (HBW5.out.trans (h.mono HBW5.out.size))
        obtain ⟨z1, z2, z3, z4⟩ := HVK.out.2
        exact OfDD v1 v2 (by omega) (by omega) (Below.refl _ _)
      have HO2 : Hid (∀ W, Below w5.heap.size w5 W → Calls Tryz.prog 8 #[.agg #[.bool ys, .slice ya yl yc, .slice yb yk ye, .bool vs, .slice va vl vc, .slice vb vk ve]] W (GotDD W (pqOf ts[k]).e (pqOf ts[k]).f)) := Lib.hid fun W h => by
        obtain ⟨v1, v2, v3, v4⟩ := HVK.out.1 W (HBW5.out.trans (h.mono HBW5.out.size))
        obtain ⟨z1, z2, z3, z4⟩ := HVK.out.2
        exact OfDD v3 v4 (by omega) (by omega) (Below.refl _ _)
      obtain ⟨j0, j1, j2, j3, j4, j5, j6, j7, j8, j9, j10, j11⟩ := HJ.out w5 (Below.refl _ _)
      clear h5 hbr5 HOD HVQ HLK HF0 HW4 HB4 HBW4
      go_wp2_with fail
      refine wp_region_held_drew (S := (fun w' => w'.cell? ⟨wr.heap.size, 0, none⟩ = some (.bool xs) ∧ w'.cell? ⟨wr.heap.size, 1, none⟩ = some (.slice xa xl xc) ∧ w'.cell? ⟨wr.heap.size, 2, none⟩ = some (.slice xb xk xe) ∧ w'.cell? ⟨wr.heap.size, 3, none⟩ = some (.bool us) ∧ w'.cell? ⟨wr.heap.size, 4, none⟩ = some (.slice ua ul uc) ∧ w'.cell? ⟨wr.heap.size, 5, none⟩ = some (.slice ub uk ue) ∧ w'.cell? ⟨wr.heap.size, 6, none⟩ = some (.bool ys) ∧ w'.cell? ⟨wr.heap.size, 7, none⟩ = some (.slice ya yl yc) ∧ w'.cell? ⟨wr.heap.size, 8, none⟩ = some (.slice yb yk ye) ∧ w'.cell? ⟨wr.heap.size, 9, none⟩ = some (.bool vs) ∧ w'.cell? ⟨wr.heap.size, 10, none⟩ = some (.slice va vl vc) ∧ w'.cell? ⟨wr.heap.size, 11, none⟩ = some (.slice vb vk ve))) (by kernel_rfl) ?_ (fun hHeld => ?_)
      · exact HJ.out _ (below_drew w5)
      refine wpAnyH_take (i := 0) (v := ?_) (by rfl) (by kernel_rfl) (by kernel_rfl) (by kernel_rfl) (by exact fun _ _ _ h => h) (Or.inl ⟨by rfl, ?_⟩) hHeld ?_
      rotate_left 1
      · intro w' hSw
        go_simp
        try with_reducible rfl
      try simp only [Act.put, List.setIfInBounds_toArray, List.set_cons_zero, List.set_cons_succ, List.getElem_toArray, List.getElem_cons_zero, List.getElem_cons_succ]
      refine wpAnyH_take (i := 1) (v := ?_) (by rfl) (by kernel_rfl) (by kernel_rfl) (by kernel_rfl) (by exact fun _ _ _ h => h) (Or.inl ⟨by rfl, ?_⟩) hHeld ?_
      rotate_left 1
      · intro w' hSw
        go_simp
        try with_reducible rfl
      try simp only [Act.put, List.setIfInBounds_toArray, List.set_cons_zero, List.set_cons_succ, List.getElem_toArray, List.getElem_cons_zero, List.getElem_cons_succ]
      refine wpAnyH_take (i := 2) (v := ?_) (by rfl) (by kernel_rfl) (by kernel_rfl) (by kernel_rfl) (by exact fun _ _ _ h => h) (Or.inl ⟨by rfl, ?_⟩) hHeld ?_
      rotate_left 1
      · intro w' hSw
        go_simp
        try with_reducible rfl
      try simp only [Act.put, List.setIfInBounds_toArray, List.set_cons_zero, List.set_cons_succ, List.getElem_toArray, List.getElem_cons_zero, List.getElem_cons_succ]
      refine wpAnyH_take (i := 4) (v := ?_) (by rfl) (by kernel_rfl) (by kernel_rfl) (by kernel_rfl) (by exact fun _ _ _ h => h) (Or.inl ⟨by rfl, ?_⟩) hHeld ?_
      rotate_left 1
      · intro w' hSw
        go_simp
        try with_reducible rfl
      try simp only [Act.put, List.setIfInBounds_toArray, List.set_cons_zero, List.set_cons_succ, List.getElem_toArray, List.getElem_cons_zero, List.getElem_cons_succ]
      refine wpAnyH_take (i := 5) (v := ?_) (by rfl) (by kernel_rfl) (by kernel_rfl) (by kernel_rfl) (by exact fun _ _ _ h => h) (Or.inl ⟨by rfl, ?_⟩) hHeld ?_
      rotate_left 1
      · intro w' hSw
        go_simp
        try with_reducible rfl
      try simp only [Act.put, List.setIfInBounds_toArray, List.set_cons_zero, List.set_cons_succ, List.getElem_toArray, List.getElem_cons_zero, List.getElem_cons_succ]
      refine wpAnyH_ready (rs := [3]) (by kernel_rfl) (by simp) ?_
      refine AllReadyH.cons (by rfl) (fun K hK => ?_) AllReadyH.nil
      go_simp
      with_reducible refine (HO1.out _ (below_drew w5)).mono ?_
      rintro e w101 ⟨fs, fa, fl, fc, fb, fk, fe, hs, ha, hl, hc, hb, hk, he, rfl, G1, V1, U1⟩
      have HB1 := Lib.hid ((below_drew w5).trans (G1.out.mono (below_drew w5).size))
      clear hHeld
      refine hK.out _ _ ?_ (fun hHeld => ?_)
      · exact HJ.out _ HB1.out
      clear hK K
      try simp only [Act.put, List.setIfInBounds_toArray, List.set_cons_zero, List.set_cons_succ, List.getElem_toArray, List.getElem_cons_zero, List.getElem_cons_succ]
      refine wpAnyH_ready (rs := [6]) (by kernel_rfl) (by simp) ?_
      refine AllReadyH.cons (by rfl) (fun K hK => ?_) AllReadyH.nil
      go_simp
      with_reducible refine (HO2.out _ HB1.out).mono ?_
      rintro e w102 ⟨ms, ma, ml, mc, mb, mk, me, os, oa, ol, oc, ob, ok, oe, rfl, G2, V2, U2⟩
      have HB2 := Lib.hid (HB1.out.trans (G2.out.mono HB1.out.size))
      clear hHeld
      refine hK.out _ _ ?_ (fun hHeld => ?_)
      · exact HJ.out _ HB2.out
      clear hK K
      try simp only [Act.put, List.setIfInBounds_toArray, List.set_cons_zero, List.set_cons_succ, List.getElem_toArray, List.getElem_cons_zero, List.getElem_cons_succ]
      refine wpAnyH_take (i := 7) (v := ?_) (by rfl) (by kernel_rfl) (by kernel_rfl) (by kernel_rfl) (by exact fun _ _ _ h => h) (Or.inl ⟨by rfl, ?_⟩) hHeld ?_
      rotate_left 1
      · intro w' hSw
        go_simp
        try with_reducible rfl
      try simp only [Act.put, List.setIfInBounds_toArray, List.set_cons_zero, List.set_cons_succ, List.getElem_toArray, List.getElem_cons_zero, List.getElem_cons_succ]
      have HB3 := Lib.hid (HB2.out.alloc HB2.out.size (.cells #[.bool fs, .slice fa fl fc, .slice fb fk fe, .bool hs, .slice ha hl hc, .slice hb hk he, .bool ms, .slice ma ml mc, .slice mb mk me, .bool os, .slice oa ol oc, .slice ob ok oe] 42))
      have hbw : Below wr.heap.size wr (w102.alloc (.cells #[.bool fs, .slice fa fl fc, .slice fb fk fe, .bool hs, .slice ha hl hc, .slice hb hk he, .bool ms, .slice ma ml mc, .slice mb mk me, .bool os, .slice oa ol oc, .slice ob ok oe] 42)) := HBR5.out.trans (HB3.out.mono HBR5.out.size)
      have HOWN := Lib.hid (HST.out.own.kept hbw)
      have HVE : Hid (VE (w102.alloc (.cells #[.bool fs, .slice fa fl fc, .slice fb fk fe, .bool hs, .slice ha hl hc, .slice hb hk he, .bool ms, .slice ma ml mc, .slice mb mk me, .bool os, .slice oa ol oc, .slice ob ok oe] 42)) ((fs, (fa, fl, fc), (fb, fk, fe)), (hs, (ha, hl, hc), (hb, hk, he)), (ms, (ma, ml, mc), (mb, mk, me)), (os, (oa, ol, oc), (ob, ok, oe))) (pqOf ts[k])) := Lib.hid ⟨(V1.out.kept G2.out).alloc _, (U1.out.kept G2.out).alloc _, V2.out.alloc _, U2.out.alloc _⟩
      have HNW := Lib.hid (news_cells w102 ((fs, (fa, fl, fc), (fb, fk, fe)), (hs, (ha, hl, hc), (hb, hk, he)), (ms, (ma, ml, mc), (mb, mk, me)), (os, (oa, ol, oc), (ob, ok, oe))) 42)
      have HGF := Lib.hid (good_flat ((fs, (fa, fl, fc), (fb, fk, fe)), (hs, (ha, hl, hc), (hb, hk, he)), (ms, (ma, ml, mc), (mb, mk, me)), (os, (oa, ol, oc), (ob, ok, oe))))
      have HGO := Lib.hid (fun u hu => good_one (HGF.out u hu))
      have HBW := Lib.hid hbw
      have hgw : g < wr.heap.size := HST.out.own.lt
      have hne : wr.heap.size ≠ g := by omega
      clear V1 U1 V2 U2 hbw G1 G2 HO1 HO2 HVK
      refine wpAnyH_ready (rs := [8]) (by kernel_rfl) (by simp) ?_
      refine AllReadyH.cons (by rfl) (fun K hK => ?_) AllReadyH.nil
      go_simp
      refine hK.out _ _ ?_ (fun hHeld => ?_)
      · exact HJ.out _ HB3.out
      clear hK K
      try simp only [Act.put, List.setIfInBounds_toArray, List.set_cons_zero, List.set_cons_succ, List.getElem_toArray, List.getElem_cons_zero, List.getElem_cons_succ]
      refine wpAnyH_ready (rs := [9]) (by kernel_rfl) (by simp) ?_
      refine AllReadyH.cons (by rfl) (fun K hK => ?_) AllReadyH.nil
      refine step_append_twelve rfl (.tmp 34) (.tmp 42) 24 rfl 42 (.agg #[.bool false, .slice none 0 0, .slice none 0 0, .bool false, .slice none 0 0, .slice none 0 0, .bool false, .slice none 0 0, .slice none 0 0, .bool false, .slice none 0 0, .slice none 0 0]) 224 Tryz.underlying24 info_two rfl good_two g k cap (vs0.flatMap flatR) (by rfl) HOWN.out ⟨w102.heap.size, 0, none⟩ 1 (flatR ((fs, (fa, fl, fc), (fb, fk, fe)), (hs, (ha, hl, hc), (hb, hk, he)), (ms, (ma, ml, mc), (mb, mk, me)), (os, (oa, ol, oc), (ob, ok, oe)))) rfl (by rfl) HNW.out HGO.out HGF.out (by unfold maxLen; omega) (by omega) ?_
      intro g' cap' w6 hown hgrw hor
      refine hK.out _ _ ?_ (fun hHeld => ?_)
      · exact grown12 hgrw hne (HJ.out _ HB3.out)
      clear hK K
      try simp only [Act.put, List.setIfInBounds_toArray, List.set_cons_zero, List.set_cons_succ, List.getElem_toArray, List.getElem_cons_zero, List.getElem_cons_succ]
      refine wpAnyH_take (i := 10) (v := ?_) (by rfl) (by kernel_rfl) (by kernel_rfl) (by kernel_rfl) (by exact fun _ _ _ h => h) (Or.inl ⟨by rfl, ?_⟩) hHeld ?_
      rotate_left 1
      · intro w' hSw
        go_simp
        try with_reducible rfl
      try simp only [Act.put, List.setIfInBounds_toArray, List.set_cons_zero, List.set_cons_succ, List.getElem_toArray, List.getElem_cons_zero, List.getElem_cons_succ]
      refine wpAnyH_done (by kernel_rfl) ?_ _
      clear hHeld
      have HE := Lib.hid (HST.out.next hlt HBW.out hgrw hown hor HVE.out HO.out)
      clear hown hgrw hor HVE HNW HGF HGO HOWN HB1 HB2 HB3 HBW HJ HST HBR5 HBW5
      go_wp2_with fail
      go_roundw
      case rel => exact ⟨k + 1, g', cap', _, by omega, rfl, by go_num, HE⟩
      case measure => simp [intOf]; omega
    · obtain rfl : k = ts.length := by omega
      have HODD : Hid (∀ p ∈ ts, odd2 p = false) := Lib.hid (by have := HST.out.ok; rwa [List.take_length] at this)
      obtain ⟨w5, hw5⟩ : ∃ w5, w5 = wr.alloc (.cells #[.int .i64 1000, .bool false] 86) := ⟨_, rfl⟩
      have hb5 : Below wr.heap.size wr w5 := by rw [hw5]; exact (Below.refl _ _).alloc (Nat.le_refl _) _
      have hbw5 := HST.out.below.trans (hb5.mono HST.out.below.size)
      have hbe : Bench w5 wr.heap.size 1000 false := by rw [hw5]; exact heap_alloc_new wr _
      have HR5 := Lib.hid (Room.refl hbe (HT.out.kept hbw5))
      have HBW5 := Lib.hid hbw5
      have HGE : Hid (w.heap.size ≤ wr.heap.size) := Lib.hid HST.out.below.size
      have HP5 := Lib.hid (HPI.out.kept hbw5)
      have HV5 := Lib.hid (HVP.out w5 hbw5 HODD.out)
      have HD5 : Hid (DL w5 g vs0 (ts.map pqOf)) := Lib.hid (HST.out.dl.kept hb5)
      have HGL : Hid (g < wr.heap.size) := Lib.hid HST.out.own.lt
      have HW5 := Lib.hid hw5
      have HBL : Hid (wr.heap.size < w5.heap.size) := Lib.hid hbe.lt
      have HSM := Lib.hid (SmallPP HP5.out HV5.out HR5.out (by omega))
      clear hw5 hb5 hbw5 hbe HST HLT HVP HPI HT HODD hlt hk
      go_wp2_with fail
      refine (new_high 1000 wr (by omega) (by unfold maxLen; omega)).mono ?_
      rintro e w' ⟨rfl, rfl⟩
      go_wp2_with fail
      rw [← HW5.out]
      generalize wr.heap.size = b at *
      obtain ⟨q, hq⟩ : ∃ q, smallQ (ts.map pqOf) = q := ⟨_, rfl⟩
      have HQO : Hid (∀ p ∈ ts, ∀ d : Rat, 0 ≤ d → d ≤ q → ¬ 0 < cmpDQ (pqOf p).a (pqOf p).b (pqOf p).e (pqOf p).f → (pqOf p).a + (pqOf p).b * d ≤ (pqOf p).e + (pqOf p).f * d) := Lib.hid fun p hp d h0 h1 hc => keeps_order (List.mem_map_of_mem hp) h0 (by rw [hq]; exact h1) hc
      have HQP : Hid (0 < q) := Lib.hid (by rw [← hq]; exact smallQ_pos _)
      have hoks : ∀ p ∈ ts.map pqOf, OkP p := fun p hp => by
        obtain ⟨r, hr, rfl⟩ := List.mem_map.1 hp
        exact (HV5.out r hr).ok
      have HOKS := Lib.hid hoks
      have HQZ : Hid (szQ q ≤ 34) := Lib.hid (by rw [← hq]; exact smallQ_sz hoks)
      rw [hq] at HSM
      have HQQ := Lib.hid hq
      clear hq hoks
      refine HSM.out.mono ?_
      rintro e w6 ⟨ds, da, dl, dc, db, dk, de, rfl, R6, V6⟩
      obtain ⟨w7, hw7⟩ : ∃ w7, w7 = w6.alloc (.cells #[.bool ds, .slice da dl dc, .slice db dk de] 30) := ⟨_, rfl⟩
      have hr7 : Room b w5 w7 := by rw [hw7]; exact R6.out.alloc _
      have hl7 : LiesQ (ds, (da, dl, dc), (db, dk, de)) w6.heap.size w7 := by rw [hw7]; exact LiesQ.new (ds, (da, dl, dc), (db, dk, de)) w6
      have hv7 : VQ q (ds, (da, dl, dc), (db, dk, de)) w7 := by rw [hw7]; exact V6.out.alloc _
      have HR57 := Lib.hid hr7
      have HR7 : Hid (Room b w7 w7) := Lib.hid (Room.refl hr7.bench hr7.tab)
      have HRD7 := Lib.hid (HR7.out.kept (below_drew w7))
      have HP7 := Lib.hid (HP5.out.room HR5.out.bench hr7)
      have HV7 := Lib.hid (fun p hp => (HV5.out p hp).room HR5.out.bench hr7)
      have HD7 := Lib.hid (HD5.out.room HR5.out.bench hr7)
      have hneD : w6.heap.size ≠ b := by have := R6.out.g.size; have := HBL.out; omega
      have HKD : Hid (∀ W, Room b w7 W → (W.cell? ⟨w6.heap.size, 0, none⟩ = some (.bool ds) ∧ W.cell? ⟨w6.heap.size, 1, none⟩ = some (.slice da dl dc) ∧ W.cell? ⟨w6.heap.size, 2, none⟩ = some (.slice db dk de))) := Lib.hid fun W h => by
        obtain ⟨h0, h1, h2, _⟩ := (hl7.room h hneD).cells
        exact ⟨h0, h1, h2⟩
      have HVDR : Hid (∀ W, Room b w7 W → VQ q (ds, (da, dl, dc), (db, dk, de)) W) := Lib.hid fun W h => h.vq hr7.bench hv7
      have HGL7 : Hid (g < w7.heap.size) := Lib.hid (by have := HGL.out; have := HBL.out; have := hr7.g.size; omega)
      have HSD : Hid (∀ W, Room b w7 W → Calls Tryz.prog 13 #[.slice (some ⟨g, 0, none⟩) ts.length cap] W (GotD W q)) := Lib.hid fun W h => by
        have := SmallDD (c := cap) (HD7.out.room hr7.bench h) HOKS.out (Below.refl W.heap.size W) (by rw [List.length_map]; omega) (by have := HGL7.out; have := h.g.size; omega)
        rw [List.length_map, HQQ.out] at this
        exact this
      have HW7 := Lib.hid hw7
      clear hw7 hr7 hl7 hv7 hneD R6 V6 HSM HP5 HV5 HD5 HW5
      go_wp2_with fail
      rw [← HW7.out]
      refine wp_region_held_drew (S := (fun w' => w'.cell? ⟨w6.heap.size, 0, none⟩ = some (.bool ds) ∧ w'.cell? ⟨w6.heap.size, 1, none⟩ = some (.slice da dl dc) ∧ w'.cell? ⟨w6.heap.size, 2, none⟩ = some (.slice db dk de))) (by kernel_rfl) ?_ (fun hHeld => ?_)
      · exact HKD.out _ HRD7.out
      refine wpAnyH_take (i := 0) (v := ?_) (by rfl) (by kernel_rfl) (by kernel_rfl) (by kernel_rfl) (by exact fun _ _ _ h => h) (Or.inl ⟨by rfl, ?_⟩) hHeld ?_
      rotate_left 1
      · intro w' hSw
        go_simp
        try with_reducible rfl
      try simp only [Act.put, List.setIfInBounds_toArray, List.set_cons_zero, List.set_cons_succ, List.getElem_toArray, List.getElem_cons_zero, List.getElem_cons_succ]
      refine wpAnyH_take (i := 1) (v := ?_) (by rfl) (by kernel_rfl) (by kernel_rfl) (by kernel_rfl) (by exact fun _ _ _ h => h) (Or.inl ⟨by rfl, ?_⟩) hHeld ?_
      rotate_left 1
      · intro w' hSw
        go_simp
        try with_reducible rfl
      try simp only [Act.put, List.setIfInBounds_toArray, List.set_cons_zero, List.set_cons_succ, List.getElem_toArray, List.getElem_cons_zero, List.getElem_cons_succ]
      refine wpAnyH_ready (rs := [2]) (by kernel_rfl) (by simp) ?_
      refine AllReadyH.cons (by rfl) (fun K hK => ?_) AllReadyH.nil
      go_simp
      with_reducible refine (HSD.out _ HRD7.out).mono ?_
      rintro e w101 ⟨fs, fa, fl, fc, fb, fk, fe, rfl, G1, V1⟩
      have HRa := Lib.hid (HRD7.out.kept G1.out)
      clear hHeld
      refine hK.out _ _ ?_ (fun hHeld => ?_)
      · exact HKD.out _ HRa.out
      clear hK K
      try simp only [Act.put, List.setIfInBounds_toArray, List.set_cons_zero, List.set_cons_succ, List.getElem_toArray, List.getElem_cons_zero, List.getElem_cons_succ]
      refine wpAnyH_ready (rs := [3]) (by kernel_rfl) (by simp) ?_
      refine AllReadyH.cons (by rfl) (fun K hK => ?_) AllReadyH.nil
      go_simp
      with_reducible refine (got_form V1.out (by have := HQZ.out; omega) (Below.refl _ _)).mono ?_
      rintro e w102 ⟨hs, ha, hl, hc, hb, hk, he, rfl, G2, V2⟩
      have HRb := Lib.hid (HRa.out.kept G2.out)
      clear hHeld
      refine hK.out _ _ ?_ (fun hHeld => ?_)
      · exact HKD.out _ HRb.out
      clear hK K
      try simp only [Act.put, List.setIfInBounds_toArray, List.set_cons_zero, List.set_cons_succ, List.getElem_toArray, List.getElem_cons_zero, List.getElem_cons_succ]
      refine wpAnyH_ready (rs := [4]) (by kernel_rfl) (by simp) ?_
      refine AllReadyH.cons (by rfl) (fun K hK => ?_) AllReadyH.nil
      go_simp
      with_reducible refine (got_same (HVDR.out _ HRb.out) V2.out (by have := HQZ.out; omega) (Below.refl _ _)).mono ?_
      rintro e w103 ⟨rfl, G3⟩
      have HRc := Lib.hid (HRb.out.kept G3.out)
      clear hHeld
      refine hK.out _ _ ?_ (fun hHeld => ?_)
      · exact HKD.out _ HRc.out
      clear hK K
      try simp only [Act.put, List.setIfInBounds_toArray, List.set_cons_zero, List.set_cons_succ, List.getElem_toArray, List.getElem_cons_zero, List.getElem_cons_succ]
      refine wpAnyH_take (i := 5) (v := ?_) (by rfl) (by kernel_rfl) (by kernel_rfl) (by kernel_rfl) (by exact fun _ _ _ h => h) (Or.inl ⟨by rfl, ?_⟩) hHeld ?_
      rotate_left 1
      · intro w' hSw
        go_simp
        try with_reducible rfl
      try simp only [Act.put, List.setIfInBounds_toArray, List.set_cons_zero, List.set_cons_succ, List.getElem_toArray, List.getElem_cons_zero, List.getElem_cons_succ]
      refine wpAnyH_take (i := 6) (v := ?_) (by rfl) (by kernel_rfl) (by kernel_rfl) (by kernel_rfl) (by exact fun _ _ _ h => h) (Or.inl ⟨by rfl, ?_⟩) hHeld ?_
      rotate_left 1
      · intro w' hSw
        go_simp
        try with_reducible rfl
      try simp only [Act.put, List.setIfInBounds_toArray, List.set_cons_zero, List.set_cons_succ, List.getElem_toArray, List.getElem_cons_zero, List.getElem_cons_succ]
      refine wpAnyH_take (i := 7) (v := ?_) (by rfl) (by kernel_rfl) (by kernel_rfl) (by kernel_rfl) (by exact fun _ _ _ h => h) (Or.inl ⟨by rfl, ?_⟩) hHeld ?_
      rotate_left 1
      · intro w' hSw
        go_simp
        try with_reducible rfl
      try simp only [Act.put, List.setIfInBounds_toArray, List.set_cons_zero, List.set_cons_succ, List.getElem_toArray, List.getElem_cons_zero, List.getElem_cons_succ]
      refine wpAnyH_ready (rs := [8]) (by kernel_rfl) (by simp) ?_
      refine AllReadyH.cons (by rfl) (fun K hK => ?_) AllReadyH.nil
      go_simp
      with_reducible refine (gotB_over HRc.out).mono ?_
      rintro e w104 ⟨rfl, R4⟩
      clear hHeld
      refine hK.out _ _ ?_ (fun hHeld => ?_)
      · exact HKD.out _ R4.out
      clear hK K
      try simp only [Act.put, List.setIfInBounds_toArray, List.set_cons_zero, List.set_cons_succ, List.getElem_toArray, List.getElem_cons_zero, List.getElem_cons_succ]
      refine wpAnyH_take (i := 9) (v := ?_) (by rfl) (by kernel_rfl) (by kernel_rfl) (by kernel_rfl) (by exact fun _ _ _ h => h) (Or.inl ⟨by rfl, ?_⟩) hHeld ?_
      rotate_left 1
      · intro w' hSw
        go_simp
        try with_reducible rfl
      try simp only [Act.put, List.setIfInBounds_toArray, List.set_cons_zero, List.set_cons_succ, List.getElem_toArray, List.getElem_cons_zero, List.getElem_cons_succ]
      refine wpAnyH_done (by kernel_rfl) ?_ _
      clear hHeld
      obtain ⟨d0, d1, d2⟩ := HKD.out _ R4.out
      obtain ⟨m, hm255, hand⟩ := and255 n
      have HOF : Hid (∀ W, Calls Tryz.prog 16 #[.int .i64 (IntKind.i64.wrap ((m : Int) + 1))] W (GotQ W (qI ((m : Int) + 1)))) := Lib.hid fun W => by
        rw [IntWalk.i64_in ((m : Int) + 1) (by omega)]
        exact (OfP_any ((m : Int) + 1) W (by omega) (by omega)).mono fun e W' hg => hg.got (Below.refl _ _)
      have HMZ : Hid (szQ (qI ((m : Int) + 1)) ≤ 1) := Lib.hid (qI_sz hm255)
      have HM1 : Hid (1 ≤ qI ((m : Int) + 1)) := Lib.hid (qI_ge m)
      clear V1 V2 G1 G2 G3 HRa HRb HRc HSD HRD7 HOKS HW7
      go_wp2_with fail
      refine wp_region_held_drew (S := (fun w' => w'.cell? ⟨w6.heap.size, 0, none⟩ = some (.bool ds) ∧ w'.cell? ⟨w6.heap.size, 1, none⟩ = some (.slice da dl dc) ∧ w'.cell? ⟨w6.heap.size, 2, none⟩ = some (.slice db dk de))) (by kernel_rfl) ?_ (fun hHeld => ?_)
      · exact HKD.out _ (R4.out.kept (below_drew _))
      refine wpAnyH_take (i := 0) (v := ?_) (by rfl) (by kernel_rfl) (by kernel_rfl) (by kernel_rfl) (by exact fun _ _ _ h => h) (Or.inl ⟨by rfl, ?_⟩) hHeld ?_
      rotate_left 1
      · intro w' hSw
        go_simp
        try with_reducible rfl
      try simp only [Act.put, List.setIfInBounds_toArray, List.set_cons_zero, List.set_cons_succ, List.getElem_toArray, List.getElem_cons_zero, List.getElem_cons_succ]
      refine wpAnyH_take (i := 1) (v := ?_) (by rfl) (by kernel_rfl) (by kernel_rfl) (by kernel_rfl) (by exact fun _ _ _ h => h) (Or.inl ⟨by rfl, ?_⟩) hHeld ?_
      rotate_left 1
      · intro w' hSw
        go_simp
        try with_reducible rfl
      try simp only [Act.put, List.setIfInBounds_toArray, List.set_cons_zero, List.set_cons_succ, List.getElem_toArray, List.getElem_cons_zero, List.getElem_cons_succ]
      refine wpAnyH_take (i := 2) (v := ?_) (by rfl) (by kernel_rfl) (by kernel_rfl) (by kernel_rfl) (by exact fun _ _ _ h => h) (Or.inl ⟨by rfl, ?_⟩) hHeld ?_
      rotate_left 1
      · intro w' hSw
        go_simp
        try with_reducible rfl
      try simp only [Act.put, List.setIfInBounds_toArray, List.set_cons_zero, List.set_cons_succ, List.getElem_toArray, List.getElem_cons_zero, List.getElem_cons_succ]
      refine wpAnyH_take (i := 3) (v := ?_) (by rfl) (by kernel_rfl) (by kernel_rfl) (by kernel_rfl) (by exact fun _ _ _ h => h) (Or.inl ⟨by rfl, ?_⟩) hHeld ?_
      rotate_left 1
      · intro w' hSw
        go_simp
        try with_reducible rfl
      try simp only [Act.put, List.setIfInBounds_toArray, List.set_cons_zero, List.set_cons_succ, List.getElem_toArray, List.getElem_cons_zero, List.getElem_cons_succ]
      refine wpAnyH_take (i := 4) (v := ?_) (by rfl) (by kernel_rfl) (by kernel_rfl) (by kernel_rfl) (by exact fun _ _ _ h => h) (Or.inl ⟨by rfl, ?_⟩) hHeld ?_
      rotate_left 1
      · intro w' hSw
        go_simp
        try with_reducible rfl
      try simp only [Act.put, List.setIfInBounds_toArray, List.set_cons_zero, List.set_cons_succ, List.getElem_toArray, List.getElem_cons_zero, List.getElem_cons_succ]
      refine wpAnyH_take (i := 5) (v := ?_) (by rfl) (by kernel_rfl) (by kernel_rfl) (by kernel_rfl) (by exact fun _ _ _ h => h) (Or.inl ⟨by rfl, ?_⟩) hHeld ?_
      rotate_left 1
      · intro w' hSw
        go_simp
        try with_reducible rfl
      try simp only [Act.put, List.setIfInBounds_toArray, List.set_cons_zero, List.set_cons_succ, List.getElem_toArray, List.getElem_cons_zero, List.getElem_cons_succ]
      refine wpAnyH_take (i := 10) (v := ?_) (by rfl) (by kernel_rfl) (by kernel_rfl) (by kernel_rfl) (by exact fun _ _ _ h => h) (Or.inl ⟨by rfl, ?_⟩) hHeld ?_
      rotate_left 1
      · intro w' hSw
        go_simp
        try with_reducible rfl
      try simp only [Act.put, List.setIfInBounds_toArray, List.set_cons_zero, List.set_cons_succ, List.getElem_toArray, List.getElem_cons_zero, List.getElem_cons_succ]
      refine wpAnyH_ready (rs := [6]) (by kernel_rfl) (by simp) ?_
      refine AllReadyH.cons (by rfl) (fun K hK => ?_) AllReadyH.nil
      go_simp
      with_reducible refine (HOF.out _).mono ?_
      rintro e w105 ⟨os, oa, ol, oc, ob, ok, oe, rfl, G5, V5⟩
      have HRe := Lib.hid ((R4.out.kept (below_drew _)).kept G5.out)
      clear hHeld
      refine hK.out _ _ ?_ (fun hHeld => ?_)
      · exact HKD.out _ HRe.out
      clear hK K
      try simp only [Act.put, List.setIfInBounds_toArray, List.set_cons_zero, List.set_cons_succ, List.getElem_toArray, List.getElem_cons_zero, List.getElem_cons_succ]
      refine wpAnyH_ready (rs := [7]) (by kernel_rfl) (by simp) ?_
      refine AllReadyH.cons (by rfl) (fun K hK => ?_) AllReadyH.nil
      go_simp
      with_reducible refine (gotB_div (Room.refl HRe.out.bench HRe.out.tab) (HVDR.out _ HRe.out) V5.out (by have := HQZ.out; omega) (by have := HMZ.out; omega)).mono ?_
      rintro e w106 ⟨ns, na, nl, nc, nb, nk, ne, rfl, R6', V6'⟩
      have HRf := Lib.hid (HRe.out.trans R6'.out)
      clear hHeld
      refine hK.out _ _ ?_ (fun hHeld => ?_)
      · exact HKD.out _ HRf.out
      clear hK K
      try simp only [Act.put, List.setIfInBounds_toArray, List.set_cons_zero, List.set_cons_succ, List.getElem_toArray, List.getElem_cons_zero, List.getElem_cons_succ]
      have HQN : Hid (0 ≤ q / qI ((m : Int) + 1) ∧ q / qI ((m : Int) + 1) ≤ q) := Lib.hid (part_le HQP.out HM1.out)
      have HQNZ : Hid (szQ (q / qI ((m : Int) + 1)) ≤ 39) := Lib.hid (by have := szQ_div q (qI ((m : Int) + 1)); have := HQZ.out; have := HMZ.out; omega)
      obtain ⟨w10, hw10⟩ : ∃ w10, w10 = w106.alloc (.cells #[.bool ds, .slice da dl dc, .slice db dk de, .bool ns, .slice na nl nc, .slice nb nk ne] 30) := ⟨_, rfl⟩
      have hr10 : Room b w7 w10 := by rw [hw10]; exact HRf.out.alloc _
      have hblk : w10.heap[w106.heap.size]? = some (.cells #[.bool ds, .slice da dl dc, .slice db dk de, .bool ns, .slice na nl nc, .slice nb nk ne] 30 (0, 0)) := by rw [hw10]; exact heap_alloc_new w106 _
      have hvn : VQ (q / qI ((m : Int) + 1)) (ns, (na, nl, nc), (nb, nk, ne)) w10 := by rw [hw10]; exact V6'.out.alloc _
      have hvd := HVDR.out _ hr10
      have hneE : w106.heap.size ≠ b := by have := HRf.out.g.size; have := HBL.out; have := HR57.out.g.size; omega
      have HEJ : Hid (∀ j : Nat, j < 2 → ∃ (r : Rat) (es : Bool) (ea : Option Addr) (el ec : Nat) (eb : Option Addr) (ek ee : Nat), (∀ W, Room b w10 W → (W.cell? ⟨w106.heap.size, j * 3, none⟩ = some (.bool es) ∧ W.cell? ⟨w106.heap.size, j * 3 + 1, none⟩ = some (.slice ea el ec) ∧ W.cell? ⟨w106.heap.size, j * 3 + 2, none⟩ = some (.slice eb ek ee))) ∧
          (∀ W, Room b w10 W → VQ r (es, (ea, el, ec), (eb, ek, ee)) W) ∧ 0 ≤ r ∧ r ≤ q ∧ szQ r ≤ 39) := Lib.hid fun j hj => by
        have hc := fun W (h : Room b w10 W) => cells6 (h.block hblk hneE)
        rcases j with _ | _ | j
        · exact ⟨q, ds, da, dl, dc, db, dk, de, fun W h => ⟨(hc W h).1, (hc W h).2.1, (hc W h).2.2.1⟩, fun W h => h.vq hr10.bench hvd, Rat.le_of_lt HQP.out, Rat.le_refl, by have := HQZ.out; omega⟩
        · exact ⟨_, ns, na, nl, nc, nb, nk, ne, fun W h => ⟨(hc W h).2.2.2.1, (hc W h).2.2.2.2.1, (hc W h).2.2.2.2.2.1⟩, fun W h => h.vq hr10.bench hvn, HQN.out.1, HQN.out.2, HQNZ.out⟩
        · omega
      have HW10 := Lib.hid hw10
      have HR10 := Lib.hid (Room.refl hr10.bench hr10.tab)
      have HR510 := Lib.hid (HR57.out.trans hr10)
      have HP10 := Lib.hid (HP7.out.room HR7.out.bench hr10)
      have HV10 := Lib.hid (fun p hp => (HV7.out p hp).room HR7.out.bench hr10)
      have HD10 := Lib.hid (HD7.out.room HR7.out.bench hr10)
      refine wpAnyH_ready (rs := [8]) (by kernel_rfl) (by simp) ?_
      refine AllReadyH.cons (by rfl) (fun K hK => ?_) AllReadyH.nil
      go_simp
      refine hK.out _ _ ?_ (fun hHeld => ?_)
      · exact HKD.out _ (HRf.out.alloc _)
      clear hK K
      try simp only [Act.put, List.setIfInBounds_toArray, List.set_cons_zero, List.set_cons_succ, List.getElem_toArray, List.getElem_cons_zero, List.getElem_cons_succ]
      refine wpAnyH_take (i := 9) (v := ?_) (by rfl) (by kernel_rfl) (by kernel_rfl) (by kernel_rfl) (by exact fun _ _ _ h => h) (Or.inl ⟨by rfl, ?_⟩) hHeld ?_
      rotate_left 1
      · intro w' hSw
        go_simp
        try with_reducible rfl
      try simp only [Act.put, List.setIfInBounds_toArray, List.set_cons_zero, List.set_cons_succ, List.getElem_toArray, List.getElem_cons_zero, List.getElem_cons_succ]
      refine wpAnyH_done (by kernel_rfl) ?_ _
      clear hHeld
      rw [← HW10.out]
      generalize w106.heap.size = ge at HEJ ⊢
      clear hw10 hr10 hblk hvn hvd hneE HQN HQNZ HMZ HM1 HOF V5 G5 V6' R6' HRe HRf HKD HVDR R4 HR57 HR7 HP7 HV7 HD7 HGL7 HW10 HQP HQZ d0 d1 d2 hand hm255 HN HR5
      go_wp2_with fail
      go_loopw [69] (fun iv wr => ∃ j : Nat, j ≤ 2 ∧ iv = .int .i64 j ∧ Hid (Room b w10 wr)) (fun iv _ => 2 - (intOf iv).toNat)
      case atStart => exact ⟨0, by omega, rfl, HR10⟩
      case round =>
        obtain ⟨j, hj, rfl, HRJ⟩ := hrel
        by_cases hjl : j < 2
        · obtain ⟨r, es, ea, el, ec, eb, ek, ee, hec, hev, he0, heq, hez⟩ := HEJ.out j hjl
          obtain ⟨e0, e1, e2⟩ := hec wr HRJ.out
          obtain ⟨w11, hw11⟩ : ∃ w11, w11 = wr.alloc (.cells #[.bool es, .slice ea el ec, .slice eb ek ee] 30) := ⟨_, rfl⟩
          have hr11 : Room b w10 w11 := by rw [hw11]; exact HRJ.out.alloc _
          have hl11 : LiesQ (es, (ea, el, ec), (eb, ek, ee)) wr.heap.size w11 := by rw [hw11]; exact LiesQ.new (es, (ea, el, ec), (eb, ek, ee)) wr
          have hbx : b < w10.heap.size := HR10.out.bench.lt
          have hneX : wr.heap.size ≠ b := by have := HRJ.out.g.size; omega
          have HR11 := Lib.hid hr11
          have HRR11 := Lib.hid (Room.refl hr11.bench hr11.tab)
          have HE11 : Hid (∀ W, Room b w11 W → (W.cell? ⟨wr.heap.size, 0, none⟩ = some (.bool es) ∧ W.cell? ⟨wr.heap.size, 1, none⟩ = some (.slice ea el ec) ∧ W.cell? ⟨wr.heap.size, 2, none⟩ = some (.slice eb ek ee))) := Lib.hid fun W h => by
            obtain ⟨h0, h1, h2, _⟩ := (hl11.room h hneX).cells
            exact ⟨h0, h1, h2⟩
          have HVE : Hid (∀ W, Room b w11 W → VQ r (es, (ea, el, ec), (eb, ek, ee)) W) := Lib.hid fun W h => hev W (hr11.trans h)
          have HLP := Lib.hid (pair_letters (HP10.out.room HR10.out.bench hr11) (fun p hp => (HV10.out p hp).room HR10.out.bench hr11) hr11.bench)
          have HLL := Lib.hid (room_letters (HD10.out.room HR10.out.bench hr11) hr11.bench)
          have HRI := Lib.hid (And.intro he0 (And.intro heq hez))
          have HBX : Hid (b < w11.heap.size ∧ wr.heap.size < w11.heap.size) := Lib.hid ⟨hr11.bench.lt, (Array.getElem?_eq_some_iff.1 hl11).1⟩
          have HW11 := Lib.hid hw11
          clear hw11 hr11 hl11 hbx hneX hec hev he0 heq hez
          go_wp2_with fail
          rw [← HW11.out]
          generalize wr.heap.size = gt at *
          go_loopw [75] (fun iv wr => ∃ k : Nat, k ≤ ts.length ∧ iv = .int .i64 k ∧ Hid (Room b w11 wr)) (fun iv _ => ts.length - (intOf iv).toNat)
          case atStart => exact ⟨0, Nat.zero_le _, rfl, HRR11⟩
          case round =>
            obtain ⟨k, hk, rfl, HRY⟩ := hrel
            by_cases hlt : k < ts.length
            · obtain ⟨gq, off, xs, xa, xl, xc, xb, xk, xe, us, ua, ul, uc, ub, uk, ue, ys, ya, yl, yc, yb, yk, ye, vs, va, vl, vc, vb, vk, ve, rfl, hcl, hvq, hok⟩ := HLP.out k hlt
              obtain ⟨xxs, xxa, xxl, xxc, xxb, xxk, xxe, uus, uua, uul, uuc, uub, uuk, uue, yys, yya, yyl, yyc, yyb, yyk, yye, vvs, vva, vvl, vvc, vvb, vvk, vve, hdl, hvd⟩ := HLL.out k (by rw [List.length_map]; exact hlt)
              have HORD := Lib.hid (HQO.out ts[k] (List.getElem_mem hlt) r HRI.out.1 HRI.out.2.1)
              rw [List.getElem_map] at hvd
              generalize pqOf ts[k] = p at hvq hok hvd HORD
              obtain ⟨d0, d1, d2, d3, d4, d5, d6, d7, d8, d9, d10, d11⟩ := hcl _ HRY.out
              have hgr : gq < wr.heap.size := World.block_lt_of_cell? _ _ d0
              obtain ⟨w12, hw12⟩ : ∃ w12, w12 = wr.alloc (.cells #[.bool xs, .slice xa xl xc, .slice xb xk xe, .bool us, .slice ua ul uc, .slice ub uk ue, .bool ys, .slice ya yl yc, .slice yb yk ye, .bool vs, .slice va vl vc, .slice vb vk ve] 33) := ⟨_, rfl⟩
              have hr12 : Room b w11 w12 := by rw [hw12]; exact HRY.out.alloc _
              have hl12 : w12.heap[wr.heap.size]? = some (.cells #[.bool xs, .slice xa xl xc, .slice xb xk xe, .bool us, .slice ua ul uc, .slice ub uk ue, .bool ys, .slice ya yl yc, .slice yb yk ye, .bool vs, .slice va vl vc, .slice vb vk ve] 33 (0, 0)) := by rw [hw12]; exact heap_alloc_new wr _
              have hneP : wr.heap.size ≠ b := by have := HRY.out.g.size; have := HBX.out.1; omega
              have HB12 : Hid (wr.heap.size < w12.heap.size ∧ gt < w12.heap.size) := Lib.hid ⟨(Array.getElem?_eq_some_iff.1 hl12).1, by have := hr12.g.size; have := HBX.out.2; omega⟩
              have HR12 := Lib.hid hr12
              have HRB12 := Lib.hid (Room.refl hr12.bench hr12.tab)
              have HRD12 := Lib.hid (HRB12.out.kept (below_drew w12))
              have HBB12 : Hid (b < w12.heap.size) := Lib.hid hr12.bench.lt
              have hbl12 := fun W (h : Room b w12 W) => cells12 (h.block hl12 hneP)
              have HBP := Lib.hid hbl12
              have HDL := Lib.hid (fun W (h : Room b w12 W) => hdl W (HR12.out.trans h))
              have HVD := Lib.hid (fun W (h : Room b w12 W) => hvd W (HR12.out.trans h))
              have HVE12 := Lib.hid (fun W (h : Room b w12 W) => HVE.out W (HR12.out.trans h))
              have HE12 := Lib.hid (fun W (h : Room b w12 W) => HE11.out W (HR12.out.trans h))
              have HA1 : Hid (∀ W, Room b w12 W → Calls Tryz.prog 17 #[.pointer (some ⟨b, 0, none⟩), .agg #[.bool xs, .slice xa xl xc, .slice xb xk xe, .bool us, .slice ua ul uc, .slice ub uk ue], .agg #[.bool es, .slice ea el ec, .slice eb ek ee]] W (GotB b W (p.a + p.b * r))) := Lib.hid fun W h => by
                obtain ⟨v1, v2, v3, v4⟩ := hvq W (HR12.out.trans h)
                obtain ⟨z1, z2, z3, z4⟩ := hok
                exact AtPP v1 v2 (HVE12.out W h) (by omega) (by omega) HRI.out.2.2 (Room.refl h.bench h.tab)
              have HA2 : Hid (∀ W, Room b w12 W → Calls Tryz.prog 17 #[.pointer (some ⟨b, 0, none⟩), .agg #[.bool ys, .slice ya yl yc, .slice yb yk ye, .bool vs, .slice va vl vc, .slice vb vk ve], .agg #[.bool es, .slice ea el ec, .slice eb ek ee]] W (GotB b W (p.e + p.f * r))) := Lib.hid fun W h => by
                obtain ⟨v1, v2, v3, v4⟩ := hvq W (HR12.out.trans h)
                obtain ⟨z1, z2, z3, z4⟩ := hok
                exact AtPP v3 v4 (HVE12.out W h) (by omega) (by omega) HRI.out.2.2 (Room.refl h.bench h.tab)
              have HOK : Hid (szQ p.a ≤ 6 ∧ szQ p.b ≤ 6 ∧ szQ p.e ≤ 6 ∧ szQ p.f ≤ 6) := Lib.hid hok
              have HW12 := Lib.hid hw12
              clear hcl hvq hok hdl hvd hw12 hr12 hl12 hneP hbl12 HRY
              go_wp2_with fail
              rw [← HW12.out]
              generalize wr.heap.size = gp at *
              have HK : Hid (∀ W, Room b w12 W → (W.cell? ⟨gp, 0, none⟩ = some (.bool xs) ∧ W.cell? ⟨gp, 1, none⟩ = some (.slice xa xl xc) ∧ W.cell? ⟨gp, 2, none⟩ = some (.slice xb xk xe) ∧ W.cell? ⟨gp, 3, none⟩ = some (.bool us) ∧ W.cell? ⟨gp, 4, none⟩ = some (.slice ua ul uc) ∧ W.cell? ⟨gp, 5, none⟩ = some (.slice ub uk ue) ∧ W.cell? ⟨gp, 6, none⟩ = some (.bool ys) ∧ W.cell? ⟨gp, 7, none⟩ = some (.slice ya yl yc) ∧ W.cell? ⟨gp, 8, none⟩ = some (.slice yb yk ye) ∧ W.cell? ⟨gp, 9, none⟩ = some (.bool vs) ∧ W.cell? ⟨gp, 10, none⟩ = some (.slice va vl vc) ∧ W.cell? ⟨gp, 11, none⟩ = some (.slice vb vk ve) ∧ W.cell? ⟨gt, 0, none⟩ = some (.bool es) ∧ W.cell? ⟨gt, 1, none⟩ = some (.slice ea el ec) ∧ W.cell? ⟨gt, 2, none⟩ = some (.slice eb ek ee))) := Lib.hid fun W h => by
                obtain ⟨h0, h1, h2, h3, h4, h5, h6, h7, h8, h9, h10, h11⟩ := HBP.out W h
                obtain ⟨i0, i1, i2⟩ := HE12.out W h
                exact ⟨h0, h1, h2, h3, h4, h5, h6, h7, h8, h9, h10, h11, i0, i1, i2⟩
              obtain ⟨k0, k1, k2, k3, k4, k5, k6, k7, k8, k9, k10, k11, k12, k13, k14⟩ := HK.out w12 HRB12.out
              refine wp_region_ex (ι := Nat × Nat × RawR × RawR) (fun i => [(80, .pointer (some ⟨b, 0, none⟩)), (81, .pointer (some ⟨gp, 0, none⟩)), (82, .agg #[.bool xs, .slice xa xl xc, .slice xb xk xe, .bool us, .slice ua ul uc, .slice ub uk ue]), (83, .agg #[.bool es, .slice ea el ec, .slice eb ek ee]), (84, .agg #[.bool i.2.2.1.1, .slice i.2.2.1.2.1.1 i.2.2.1.2.1.2.1 i.2.2.1.2.1.2.2, .slice i.2.2.1.2.2.1 i.2.2.1.2.2.2.1 i.2.2.1.2.2.2.2]), (85, .pointer (some ⟨b, 0, none⟩)), (86, .pointer (some ⟨gp, 6, none⟩)), (87, .agg #[.bool ys, .slice ya yl yc, .slice yb yk ye, .bool vs, .slice va vl vc, .slice vb vk ve]), (88, .agg #[.bool es, .slice ea el ec, .slice eb ek ee]), (89, .agg #[.bool i.2.2.2.1, .slice i.2.2.2.2.1.1 i.2.2.2.2.1.2.1 i.2.2.2.2.1.2.2, .slice i.2.2.2.2.2.1 i.2.2.2.2.2.2.1 i.2.2.2.2.2.2.2]), (14, .pointer (some ⟨i.1, 0, none⟩)), (15, .pointer (some ⟨i.2.1, 0, none⟩))]) (M2At b w12 (p.a + p.b * r) (p.e + p.f * r)) (smT3 HRB12 HRD12 HBB12 HK HA1 HA2) ?rest
              case rest =>
                rintro ⟨gx, gy, ⟨ms, ⟨ma, ml, mc⟩, ⟨mb, mk, me⟩⟩, ⟨os, ⟨oa, ol, oc⟩, ⟨ob, ok, oe⟩⟩⟩ w13 hF
                obtain ⟨hx, hy, hr, hvx, hvy, hgx, hgy⟩ := hF
                dsimp only at hx hy hvx hvy hgx hgy
                have HR13 := Lib.hid (HR12.out.trans hr)
                have HRD13 := Lib.hid ((Room.refl hr.bench hr.tab).kept (below_drew w13))
                have hnx : gx ≠ b := by have := HBB12.out; omega
                have hny : gy ≠ b := by have := HBB12.out; omega
                have HRR13 := Lib.hid (Room.refl hr.bench hr.tab)
                have HSX : Hid (szQ (p.a + p.b * r) ≤ 100) := Lib.hid (by obtain ⟨z1, z2, z3, z4⟩ := HOK.out; have := HRI.out.2.2; have := szQ_mul p.b r; have := szQ_add p.a (p.b * r); omega)
                have HSY : Hid (szQ (p.e + p.f * r) ≤ 100) := Lib.hid (by obtain ⟨z1, z2, z3, z4⟩ := HOK.out; have := HRI.out.2.2; have := szQ_mul p.f r; have := szQ_add p.e (p.f * r); omega)
                have HK24 : Hid (∀ W, Room b w13 W → (W.cell? ⟨gx, 0, none⟩ = some (.bool ms) ∧ W.cell? ⟨gx, 1, none⟩ = some (.slice ma ml mc) ∧ W.cell? ⟨gx, 2, none⟩ = some (.slice mb mk me) ∧ W.cell? ⟨g, k * 12, none⟩ = some (.bool xxs) ∧ W.cell? ⟨g, k * 12 + 1, none⟩ = some (.slice xxa xxl xxc) ∧ W.cell? ⟨g, k * 12 + 2, none⟩ = some (.slice xxb xxk xxe) ∧ W.cell? ⟨g, k * 12 + 3, none⟩ = some (.bool uus) ∧ W.cell? ⟨g, k * 12 + 4, none⟩ = some (.slice uua uul uuc) ∧ W.cell? ⟨g, k * 12 + 5, none⟩ = some (.slice uub uuk uue) ∧ W.cell? ⟨gt, 0, none⟩ = some (.bool es) ∧ W.cell? ⟨gt, 1, none⟩ = some (.slice ea el ec) ∧ W.cell? ⟨gt, 2, none⟩ = some (.slice eb ek ee))) := Lib.hid fun W h => by
                  obtain ⟨h0, h1, h2, _⟩ := (hx.room h hnx).cells
                  obtain ⟨i0, i1, i2, i3, i4, i5, _⟩ := HDL.out W (hr.trans h)
                  obtain ⟨j0, j1, j2⟩ := HE12.out W (hr.trans h)
                  exact ⟨h0, h1, h2, i0, i1, i2, i3, i4, i5, j0, j1, j2⟩
                have HK26 : Hid (∀ W, Room b w13 W → (W.cell? ⟨gx, 0, none⟩ = some (.bool ms) ∧ W.cell? ⟨gx, 1, none⟩ = some (.slice ma ml mc) ∧ W.cell? ⟨gx, 2, none⟩ = some (.slice mb mk me) ∧ W.cell? ⟨gy, 0, none⟩ = some (.bool os) ∧ W.cell? ⟨gy, 1, none⟩ = some (.slice oa ol oc) ∧ W.cell? ⟨gy, 2, none⟩ = some (.slice ob ok oe) ∧ W.cell? ⟨g, k * 12, none⟩ = some (.bool xxs) ∧ W.cell? ⟨g, k * 12 + 1, none⟩ = some (.slice xxa xxl xxc) ∧ W.cell? ⟨g, k * 12 + 2, none⟩ = some (.slice xxb xxk xxe) ∧ W.cell? ⟨g, k * 12 + 3, none⟩ = some (.bool uus) ∧ W.cell? ⟨g, k * 12 + 4, none⟩ = some (.slice uua uul uuc) ∧ W.cell? ⟨g, k * 12 + 5, none⟩ = some (.slice uub uuk uue) ∧ W.cell? ⟨g, k * 12 + 6, none⟩ = some (.bool yys) ∧ W.cell? ⟨g, k * 12 + 7, none⟩ = some (.slice yya yyl yyc) ∧ W.cell? ⟨g, k * 12 + 8, none⟩ = some (.slice yyb yyk yye) ∧ W.cell? ⟨g, k * 12 + 9, none⟩ = some (.bool vvs) ∧ W.cell? ⟨g, k * 12 + 10, none⟩ = some (.slice vva vvl vvc) ∧ W.cell? ⟨g, k * 12 + 11, none⟩ = some (.slice vvb vvk vve))) := Lib.hid fun W h => by
                  obtain ⟨h0, h1, h2, _⟩ := (hx.room h hnx).cells
                  obtain ⟨j0, j1, j2, _⟩ := (hy.room h hny).cells
                  obtain ⟨i0, i1, i2, i3, i4, i5, i6, i7, i8, i9, i10, i11⟩ := HDL.out W (hr.trans h)
                  exact ⟨h0, h1, h2, j0, j1, j2, i0, i1, i2, i3, i4, i5, i6, i7, i8, i9, i10, i11⟩
                have HVX := Lib.hid (fun W (h : Room b w13 W) => h.vq hr.bench hvx)
                have HVY := Lib.hid (fun W (h : Room b w13 W) => h.vq hr.bench hvy)
                have HVE13 := Lib.hid (fun W (h : Room b w13 W) => HVE12.out W (hr.trans h))
                have HVD13 := Lib.hid (fun W (h : Room b w13 W) => HVD.out W (hr.trans h))
                obtain ⟨t0, t1, t2, t3, t4, t5, t6, t7, t8, t9, t10, t11⟩ := HK24.out w13 (Room.refl hr.bench hr.tab)
                have hki : (k : Int) < (ts.length : Int) := by omega
                have hk0 : (0 : Int) ≤ (k : Int) := by omega
                clear hx hy hr hvx hvy hgx hgy hnx hny HA1 HA2 HK HBP HDL HVD HVE12 HE12 HR12 HRB12 HRD12 HBB12 HB12 HW12
                simp only [puts, Act.put, List.setIfInBounds_toArray, List.set_cons_zero, List.set_cons_succ]
                go_wp2_with fail
                refine wp_region_ex (ι := RawR × RawR × RawR) (fun i => [(90, .agg #[.bool ms, .slice ma ml mc, .slice mb mk me]), (91, .slice (some ⟨g, 0, none⟩) ts.length cap), (92, .int .i64 (k : Int)), (93, .pointer (some ⟨g, k * 12, none⟩)), (94, .pointer (some ⟨g, k * 12, none⟩)), (95, .agg #[.bool xxs, .slice xxa xxl xxc, .slice xxb xxk xxe, .bool uus, .slice uua uul uuc, .slice uub uuk uue]), (96, .agg #[.bool es, .slice ea el ec, .slice eb ek ee]), (97, .agg #[.bool i.1.1, .slice i.1.2.1.1 i.1.2.1.2.1 i.1.2.1.2.2, .slice i.1.2.2.1 i.1.2.2.2.1 i.1.2.2.2.2]), (98, .agg #[.bool i.2.1.1, .slice i.2.1.2.1.1 i.2.1.2.1.2.1 i.2.1.2.1.2.2, .slice i.2.1.2.2.1 i.2.1.2.2.2.1 i.2.1.2.2.2.2]), (99, .agg #[.bool i.2.2.1, .slice i.2.2.2.1.1 i.2.2.2.1.2.1 i.2.2.2.1.2.2, .slice i.2.2.2.2.1 i.2.2.2.2.2.1 i.2.2.2.2.2.2]), (100, .bool true), (101, .bool false)]) (fun _ W => Room b w13 W) (smT24 (len := ts.length) HRR13 HRD13 HK24 HVE13 HVD13 HVX HSX HOK HRI hki hk0) ?_
                rintro ⟨i1, i2, i3⟩ w204 hr204
                have HRd := Lib.hid hr204
                simp only [puts, Act.put, List.setIfInBounds_toArray, List.set_cons_zero, List.set_cons_succ]
                obtain ⟨cq, hcq⟩ : ∃ cq, cmpDQ p.a p.b p.e p.f = cq := ⟨_, rfl⟩
                have HR24 := Lib.hid HRd.out
                have HRD24 := Lib.hid (HRd.out.kept (below_drew _))
                obtain ⟨t0, t1, t2, t3, t4, t5, t6, t7, t8, t9, t10, t11, t12, t13, t14, t15, t16, t17⟩ := HK26.out _ HRd.out
                have HCD : Hid (∀ W, Room b w13 W → Calls Tryz.prog 20 #[.agg #[.bool xxs, .slice xxa xxl xxc, .slice xxb xxk xxe, .bool uus, .slice uua uul uuc, .slice uub uuk uue], .agg #[.bool yys, .slice yya yyl yyc, .slice yyb yyk yye, .bool vvs, .slice vva vvl vvc, .slice vvb vvk vve]] W (GotV W (.int .i64 cq))) := Lib.hid fun W h => by
                  obtain ⟨v1, v2, v3, v4⟩ := HVD13.out W h
                  obtain ⟨z1, z2, z3, z4⟩ := HOK.out
                  exact CmpDD v1 v2 v3 v4 (by omega) (by omega) (by omega) (by omega) (Below.refl _ _) hcq
                rw [hcq] at HORD
                clear HVE13 HK24 hcq HVD13 hr204 HRd HRR13 HRD13
                go_wp2_with fail
                by_cases hcle : cq ≤ 0
                · have hle := HORD.out (by omega)
                  obtain ⟨c2, hc2⟩ : ∃ c2, cmpQ (p.a + p.b * r) (p.e + p.f * r) = c2 := ⟨_, rfl⟩
                  have hc20 : c2 ≤ 0 := by rw [← hc2]; exact cmp_le hle
                  have HC2 := Lib.hid hc2
                  clear hc2 hle
                  refine wp_region_ex (ι := RawR × RawR) (fun i => [(102, .slice (some ⟨g, 0, none⟩) ts.length cap), (103, .int .i64 (k : Int)), (104, .pointer (some ⟨g, k * 12, none⟩)), (105, .pointer (some ⟨g, k * 12, none⟩)), (106, .agg #[.bool xxs, .slice xxa xxl xxc, .slice xxb xxk xxe, .bool uus, .slice uua uul uuc, .slice uub uuk uue]), (107, .slice (some ⟨g, 0, none⟩) ts.length cap), (108, .int .i64 (k : Int)), (109, .pointer (some ⟨g, k * 12, none⟩)), (110, .pointer (some ⟨g, k * 12 + 6, none⟩)), (111, .agg #[.bool yys, .slice yya yyl yyc, .slice yyb yyk yye, .bool vvs, .slice vva vvl vvc, .slice vvb vvk vve]), (112, .int .i64 cq), (113, .bool true), (114, .bool true), (115, .agg #[.bool ms, .slice ma ml mc, .slice mb mk me]), (116, .agg #[.bool i.1.1, .slice i.1.2.1.1 i.1.2.1.2.1 i.1.2.1.2.2, .slice i.1.2.2.1 i.1.2.2.2.1 i.1.2.2.2.2]), (117, .agg #[.bool os, .slice oa ol oc, .slice ob ok oe]), (118, .agg #[.bool i.2.1, .slice i.2.2.1.1 i.2.2.1.2.1 i.2.2.1.2.2, .slice i.2.2.2.1 i.2.2.2.2.1 i.2.2.2.2.2]), (119, .int .i64 c2), (120, .bool (decide (0 < c2))), (121, .bool (decide (0 < c2)))]) (fun _ W => Room b w13 W) (smT26Y (len := ts.length) HR24 HRD24 HK26 HCD HVX HVY HSX HSY HC2 hc20 hcle hki hk0) ?_
                  rintro ⟨i1, i2⟩ w304 hr304
                  have HE := Lib.hid (HR13.out.trans hr304)
                  have hng : ¬ (0 : Int) < c2 := by omega
                  simp only [puts, Act.put, List.setIfInBounds_toArray, List.set_cons_zero, List.set_cons_succ]
                  clear HR24 HRD24 HCD HORD HVX HVY HSX HSY HK26 HR13 HOK hr304
                  go_wp2_with fail
                  go_roundw
                  case rel => exact ⟨k + 1, by omega, by go_num, HE⟩
                  case measure => simp [intOf]; omega
                · have hcn : ¬ cq ≤ 0 := hcle
                  refine wp_region_ex (ι := RawR × RawR) (fun i => [(102, .slice (some ⟨g, 0, none⟩) ts.length cap), (103, .int .i64 (k : Int)), (104, .pointer (some ⟨g, k * 12, none⟩)), (105, .pointer (some ⟨g, k * 12, none⟩)), (106, .agg #[.bool xxs, .slice xxa xxl xxc, .slice xxb xxk xxe, .bool uus, .slice uua uul uuc, .slice uub uuk uue]), (107, .slice (some ⟨g, 0, none⟩) ts.length cap), (108, .int .i64 (k : Int)), (109, .pointer (some ⟨g, k * 12, none⟩)), (110, .pointer (some ⟨g, k * 12 + 6, none⟩)), (111, .agg #[.bool yys, .slice yya yyl yyc, .slice yyb yyk yye, .bool vvs, .slice vva vvl vvc, .slice vvb vvk vve]), (112, .int .i64 cq), (113, .bool false), (114, .bool false), (115, undef), (116, undef), (117, undef), (118, undef), (119, undef), (120, undef), (121, .bool false)]) (fun _ W => Room b w13 W) (smT26N (len := ts.length) (c2 := 0) HR24 HRD24 HK26 HCD HVX HVY HSX HSY hcn hki hk0) ?_
                  rintro ⟨i1, i2⟩ w304 hr304
                  have HE := Lib.hid (HR13.out.trans hr304)
                  simp only [puts, Act.put, List.setIfInBounds_toArray, List.set_cons_zero, List.set_cons_succ]
                  clear HR24 HRD24 HCD HORD HVX HVY HSX HSY HK26 HR13 HOK hr304
                  go_wp2_with fail
                  go_roundw
                  case rel => exact ⟨k + 1, by omega, by go_num, HE⟩
                  case measure => simp [intOf]; omega
            · obtain rfl : k = ts.length := by omega
              have HE := Lib.hid (HR11.out.trans HRY.out)
              clear HRY HLP HLL HVE HE11 HRI HBX HW11 HRR11 HR11
              go_wp2_with fail
              go_roundw
              case rel => exact ⟨j + 1, by omega, by go_num, HE⟩
              case measure => simp [intOf]; omega
        · obtain rfl : j = 2 := by omega
          have HE := Lib.hid ((HR510.out.trans HRJ.out).below HBW5.out HGE.out (.inl (Nat.le_refl _)) HBW5.out.size)
          clear HRJ HEJ HR510 HR10 HP10 HV10 HD10 HBW5
          go_wp2_with fail
          go_ret
          exact ⟨rfl, HE.out⟩
end Go.Proofs.YtknackfmepkiaaaGreatDoor

