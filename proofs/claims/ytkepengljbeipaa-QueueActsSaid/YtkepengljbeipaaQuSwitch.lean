/-
  Layer 17: an act of QueueActs.
-/
import Derived.Test.YtkepengljbeipaaQuBoth
import Derived.Deep.CutBlock
set_option linter.unusedVariables false
set_option linter.unusedSimpArgs false
namespace Go.Proofs.Ytkepengljbeipaa
open Go.RowKit Qu

/-- Acts that a law is handed. -/
def ActsIn (w : World) (a : Option Addr) (az : List (Int × Int × Int)) : Prop := az = [] ∨ ∃ g off, a = some ⟨g, off, none⟩ ∧ g < w.heap.size ∧ ∀ (k : Nat) (x : Int × Int × Int), az[k]? = some x →
  w.cell? ⟨g, off + k * 3, none⟩ = some (.int .i64 x.1) ∧ w.cell? ⟨g, off + k * 3 + 1, none⟩ = some (.int .i64 x.2.1) ∧ w.cell? ⟨g, off + k * 3 + 2, none⟩ = some (.int .i64 x.2.2)
/-- An act in a variable of its own. -/
structure Mid (w0 : World) (b s h n r t g : Nat) (sc : List Int) (ins : List Bool) (A : Nat) (x : Int × Int × Int) (W : World) : Prop where
  both : Both w0 b s h n r t g sc ins W
  blk : W.heap[A]? = some (.cells #[.int .i64 x.1, .int .i64 x.2.1, .int .i64 x.2.2] 31 (0, 0))
  nf : ¬ Foot b s h A
  nr : ¬ RFoot r t g A
section
variable {w0 W W' : World} {b s h n r t g : Nat} {sc : List Int} {ins : List Bool} {A : Nat} {x : Int × Int × Int}
theorem act_cells (k : W.heap[A]? = some (.cells #[.int .i64 x.1, .int .i64 x.2.1, .int .i64 x.2.2] 31 (0, 0))) : W.cell? ⟨A, 0, none⟩ = some (.int .i64 x.1) ∧ W.cell? ⟨A, 1, none⟩ = some (.int .i64 x.2.1) ∧ W.cell? ⟨A, 2, none⟩ = some (.int .i64 x.2.2) := by
  simp [World.cell?, k]
theorem Mid.lt (k : Mid w0 b s h n r t g sc ins A x W) : A < W.heap.size := (Array.getElem?_eq_some_iff.1 k.blk).1
theorem Mid.kept (k : Mid w0 b s h n r t g sc ins A x W) (hb : Below W.heap.size W W') : Mid w0 b s h n r t g sc ins A x W' := ⟨k.both.kept hb, (hb.block _ k.lt).trans k.blk, k.nf, k.nr⟩
theorem Both.lts (k : Both w0 b s h n r t g sc ins W) : b < W.heap.size ∧ s < W.heap.size ∧ h < W.heap.size ∧ r < W.heap.size ∧ t < W.heap.size ∧ g < W.heap.size := by
  obtain ⟨l, len, st, rq, _⟩ := k
  have h1 := st.q.lts
  have h2 := rq.lts
  exact ⟨h1.1, h1.2.1, h1.2.2, h2.1, h2.2.1, h2.2.2⟩
theorem Mid.start (k : Both w0 b s h n r t g sc ins W) (x : Int × Int × Int) : Mid w0 b s h n r t g sc ins W.heap.size x (W.alloc (.cells #[.int .i64 x.1, .int .i64 x.2.1, .int .i64 x.2.2] 31)) := by
  have hl := k.lts
  refine ⟨k.kept ((Below.refl _ _).alloc (Nat.le_refl _) _), chain1 _ _, fun e => ?_, fun e => ?_⟩
  · rcases e with e | e | e <;> omega
  · rcases e with e | e | e <;> omega
end
def findB2 : Code → Option Code
  | .block 2 c => some (.block 2 c)
  | .block _ c => findB2 c
  | .loop c => findB2 c
  | .scope c => findB2 c
  | .seq a b => match findB2 a with
    | some c => some c
    | none => findB2 b
  | .cond _ a b => match findB2 a with
    | some c => some c
    | none => findB2 b
  | _ => none
/-- The statement that does an act. -/
noncomputable def actCode : Code := (Try.f3.body.bind findB2).getD .skip
set_option maxRecDepth 1000000 in
set_option maxHeartbeats 8000000 in
theorem act_any {w wc : World} {b s h n r t g A : Nat} {sc : List Int} {ins : List Bool} {what V y : Int} {th : Bool} {c0 c1 c2 c3 c4 c7 c10 c11 c12 c13 c14 c15 c16 c17 c18 c19 c20 c21 c22 c23 c24 c25 c26 c27 c28 c29 c30 c31 c32 c33 c34 c35 c36 c37 c38 c39 c40 c41 c42 c43 c44 c45 c46 c47 c48 c50 c51 c52 c53 c54 c55 c56 c57 c58 c59 c60 c61 c62 c63 c64 c65 c66 c67 c68 c69 c70 c71 c72 c73 c74 c75 c76 c77 c78 c79 c80 c81 c82 c83 c84 c85 c86 c87 c88 c89 c90 c91 c92 c93 c94 c95 c96 c97 c98 c99 c100 c101 c102 c103 c104 c105 c106 c107 c108 c109 c110 c111 c112 c113 c114 c115 c116 c117 c118 c119 c120 c121 c122 c123 c124 c125 c126 c127 c128 c129 c130 c131 c132 c133 c134 c135 c136 c137 c138 c139 c140 c141 c142 c143 c144 c145 c146 c147 c148 c149 c150 c151 c152 c153 c154 c155 c156 c157 c158 c159 c160 c161 c162 c163 c164 c165 c166 c167 c168 c169 c170 c171 c172 c173 c174 c175 c176 c177 c178 c179 c180 c181 c182 c183 c184 c185 c186 c187 c188 c189 c190 c191 c192 c193 c194 c195 : Value} {K : Act → World → Prop} {Q0 : Exit → Act → World → Prop}
    (HM2 : Hid (Mid w b s h n r t g sc ins A (what, V, y) wc)) (HTH : Hid (th = (decide (0 ≤ V) && decide (V < (n : Int))))) (hn60 : n ≤ 60) (q1 : -9223372036854775808 ≤ V) (q2 : V ≤ 9223372036854775807) (q3 : -9223372036854775808 ≤ y) (q4 : y ≤ 9223372036854775807)
    (HKK : Hid (∀ (u4 u10 u11 u12 u13 u50 u51 u52 u53 u54 u55 u56 u57 u58 u59 u60 u61 u62 u63 u64 u65 u66 u67 u68 u69 u70 u71 u72 u73 u74 u75 u76 u77 u78 u79 u80 u81 u82 u83 u84 u85 u86 u87 u88 u89 u90 u91 u92 u93 u94 u95 u96 u97 u98 u99 u100 u101 u102 u103 u104 u105 u106 u107 u108 u109 u110 u111 u112 u113 u114 u115 u116 u117 u118 u119 u120 u121 u122 u123 u124 u125 u126 u127 u128 u129 u130 u131 u132 u133 : Value) (sc' : List Int) (ins' : List Bool) (w' : World), Both w b s h n r t g sc' ins' w' → K ⟨(c0 :: c1 :: c2 :: c3 :: u4 :: .pointer (some ⟨b, 0, none⟩) :: .pointer (some ⟨r, 0, none⟩) :: c7 :: .pointer (some ⟨A, 0, none⟩) :: .bool th :: u10 :: u11 :: u12 :: u13 :: c14 :: c15 :: c16 :: c17 :: c18 :: c19 :: c20 :: c21 :: c22 :: c23 :: c24 :: c25 :: c26 :: c27 :: c28 :: c29 :: c30 :: c31 :: c32 :: c33 :: c34 :: c35 :: c36 :: c37 :: c38 :: c39 :: c40 :: c41 :: c42 :: c43 :: c44 :: c45 :: c46 :: c47 :: c48 :: .int .i64 what :: u50 :: u51 :: u52 :: u53 :: u54 :: u55 :: u56 :: u57 :: u58 :: u59 :: u60 :: u61 :: u62 :: u63 :: u64 :: u65 :: u66 :: u67 :: u68 :: u69 :: u70 :: u71 :: u72 :: u73 :: u74 :: u75 :: u76 :: u77 :: u78 :: u79 :: u80 :: u81 :: u82 :: u83 :: u84 :: u85 :: u86 :: u87 :: u88 :: u89 :: u90 :: u91 :: u92 :: u93 :: u94 :: u95 :: u96 :: u97 :: u98 :: u99 :: u100 :: u101 :: u102 :: u103 :: u104 :: u105 :: u106 :: u107 :: u108 :: u109 :: u110 :: u111 :: u112 :: u113 :: u114 :: u115 :: u116 :: u117 :: u118 :: u119 :: u120 :: u121 :: u122 :: u123 :: u124 :: u125 :: u126 :: u127 :: u128 :: u129 :: u130 :: u131 :: u132 :: u133 :: c134 :: c135 :: c136 :: c137 :: c138 :: c139 :: c140 :: c141 :: c142 :: c143 :: c144 :: c145 :: c146 :: c147 :: c148 :: c149 :: c150 :: c151 :: c152 :: c153 :: c154 :: c155 :: c156 :: c157 :: c158 :: c159 :: c160 :: c161 :: c162 :: c163 :: c164 :: c165 :: c166 :: c167 :: c168 :: c169 :: c170 :: c171 :: c172 :: c173 :: c174 :: c175 :: c176 :: c177 :: c178 :: c179 :: c180 :: c181 :: c182 :: c183 :: c184 :: c185 :: c186 :: c187 :: c188 :: c189 :: c190 :: c191 :: c192 :: c193 :: c194 :: c195 :: []).toArray, []⟩ w')) :
    Code.wp Try.prog actCode (Exit.then K Q0) ⟨(c0 :: c1 :: c2 :: c3 :: c4 :: .pointer (some ⟨b, 0, none⟩) :: .pointer (some ⟨r, 0, none⟩) :: c7 :: .pointer (some ⟨A, 0, none⟩) :: .bool th :: c10 :: c11 :: c12 :: c13 :: c14 :: c15 :: c16 :: c17 :: c18 :: c19 :: c20 :: c21 :: c22 :: c23 :: c24 :: c25 :: c26 :: c27 :: c28 :: c29 :: c30 :: c31 :: c32 :: c33 :: c34 :: c35 :: c36 :: c37 :: c38 :: c39 :: c40 :: c41 :: c42 :: c43 :: c44 :: c45 :: c46 :: c47 :: c48 :: .int .i64 what :: c50 :: c51 :: c52 :: c53 :: c54 :: c55 :: c56 :: c57 :: c58 :: c59 :: c60 :: c61 :: c62 :: c63 :: c64 :: c65 :: c66 :: c67 :: c68 :: c69 :: c70 :: c71 :: c72 :: c73 :: c74 :: c75 :: c76 :: c77 :: c78 :: c79 :: c80 :: c81 :: c82 :: c83 :: c84 :: c85 :: c86 :: c87 :: c88 :: c89 :: c90 :: c91 :: c92 :: c93 :: c94 :: c95 :: c96 :: c97 :: c98 :: c99 :: c100 :: c101 :: c102 :: c103 :: c104 :: c105 :: c106 :: c107 :: c108 :: c109 :: c110 :: c111 :: c112 :: c113 :: c114 :: c115 :: c116 :: c117 :: c118 :: c119 :: c120 :: c121 :: c122 :: c123 :: c124 :: c125 :: c126 :: c127 :: c128 :: c129 :: c130 :: c131 :: c132 :: c133 :: c134 :: c135 :: c136 :: c137 :: c138 :: c139 :: c140 :: c141 :: c142 :: c143 :: c144 :: c145 :: c146 :: c147 :: c148 :: c149 :: c150 :: c151 :: c152 :: c153 :: c154 :: c155 :: c156 :: c157 :: c158 :: c159 :: c160 :: c161 :: c162 :: c163 :: c164 :: c165 :: c166 :: c167 :: c168 :: c169 :: c170 :: c171 :: c172 :: c173 :: c174 :: c175 :: c176 :: c177 :: c178 :: c179 :: c180 :: c181 :: c182 :: c183 :: c184 :: c185 :: c186 :: c187 :: c188 :: c189 :: c190 :: c191 :: c192 :: c193 :: c194 :: c195 :: []).toArray, []⟩ wc := by
  obtain ⟨a0, a1, a2⟩ := act_cells HM2.out.blk
  dsimp only at a0 a1 a2
  conv => arg 2; whnf
  obtain ⟨rc0, rc1⟩ := HM2.out.both.rq.cells
  have hth : (∃ v : Nat, v < n ∧ V = (v : Int) ∧ th = true) ∨ ((V < 0 ∨ (n : Int) ≤ V) ∧ th = false) := by
    rw [HTH.out]
    by_cases c : 0 ≤ V ∧ V < (n : Int)
    · exact .inl ⟨V.toNat, by omega, by omega, by simp [c.1, c.2]⟩
    · refine .inr ⟨by omega, ?_⟩
      rw [Bool.eq_false_iff]
      simp
      omega
  have HNF := Lib.hid HM2.out.nf
  by_cases c0 : what = 0
  · subst c0
    rcases hth with ⟨v, hv, rfl, rfl⟩ | ⟨hv, rfl⟩
    · have HP := Lib.hid (HM2.out.both.push v hv)
      have HA := Lib.hid (fun W (z : Chg (Foot b s h) wc W) => act_cells ((z.block A HM2.out.lt HNF.out).trans HM2.out.blk))
      go_wp2_with fail
      refine HP.out.mono ?_
      rintro e w4 ⟨rfl, hcg, rq, hBB⟩
      obtain ⟨b0, b1, b2⟩ := HA.out _ hcg
      obtain ⟨r0, r1⟩ := rq.cells
      have rf := rq.flags.cell (k := v) (by rw [rq.li]; exact hv)
      have rz := rq.flags.frozen v
      have HBB := Lib.hid hBB
      generalize elb ins v = flag at *
      clear hBB rq hcg HP HA a0 a1 a2 rc0 rc1
      go_wp2_with fail
      go_region
      all_goals go_wp2_with fail
      all_goals exact HKK.out _ _ _ _ _ _ _ _ _ _ _ _ _ _ _ _ _ _ _ _ _ _ _ _ _ _ _ _ _ _ _ _ _ _ _ _ _ _ _ _ _ _ _ _ _ _ _ _ _ _ _ _ _ _ _ _ _ _ _ _ _ _ _ _ _ _ _ _ _ _ _ _ _ _ _ _ _ _ _ _ _ _ _ _ _ _ _ _ _ _ _ _ ((HBB.out _ (Below.refl _ _)).kept (Below.refl _ _).drew)
    · have HP := Lib.hid (HM2.out.both.push_out V hv)
      clear hv
      go_wp2_with fail
      refine HP.out.mono ?_
      rintro e w4 ⟨rfl, hb⟩
      have HBB := Lib.hid (HM2.out.both.kept hb)
      clear hb HP
      go_wp2_with fail
      exact HKK.out _ _ _ _ _ _ _ _ _ _ _ _ _ _ _ _ _ _ _ _ _ _ _ _ _ _ _ _ _ _ _ _ _ _ _ _ _ _ _ _ _ _ _ _ _ _ _ _ _ _ _ _ _ _ _ _ _ _ _ _ _ _ _ _ _ _ _ _ _ _ _ _ _ _ _ _ _ _ _ _ _ _ _ _ _ _ _ _ _ _ _ _ (HBB.out)
  · by_cases c1 : what = 1
    · subst c1
      clear hth c0 a1 a2
      rcases HM2.out.both.pop with ⟨v, hv, hf, hP⟩ | ⟨hf, hP⟩
      · have HP := Lib.hid hP
        have HF := Lib.hid (fun W1 (rq : RQ W1 r t g n sc ins) => HM2.out.both.first W1 rq)
        rw [hf] at HF
        clear hP hf
        go_wp2_with fail
        refine HP.out.mono ?_
        rintro e w4 ⟨rfl, hcg, rq, hBB⟩
        have HRQ := Lib.hid rq
        have HBB := Lib.hid hBB
        clear hBB rq hcg HP rc0 rc1 a0
        go_wp2_with fail
        refine (HF.out _ HRQ.out).mono ?_
        rintro e w5 ⟨rfl, hb⟩
        have rq := HRQ.out.kept hb
        obtain ⟨r0, r1⟩ := rq.cells
        have rf := rq.flags.cell (k := v) (by rw [rq.li]; exact hv)
        have rz := rq.flags.frozen v
        have HB5 := Lib.hid (HBB.out _ hb)
        generalize elb ins v = flag at *
        clear rq hb HF HRQ HBB
        go_wp2_with fail
        exact HKK.out _ _ _ _ _ _ _ _ _ _ _ _ _ _ _ _ _ _ _ _ _ _ _ _ _ _ _ _ _ _ _ _ _ _ _ _ _ _ _ _ _ _ _ _ _ _ _ _ _ _ _ _ _ _ _ _ _ _ _ _ _ _ _ _ _ _ _ _ _ _ _ _ _ _ _ _ _ _ _ _ _ _ _ _ _ _ _ _ _ _ _ _ (HB5.out)
      · have HP := Lib.hid hP
        have HF := Lib.hid (HM2.out.both.first wc HM2.out.both.rq)
        rw [hf] at HF
        clear hP hf
        go_wp2_with fail
        refine HP.out.mono ?_
        rintro e w4 ⟨rfl, rfl⟩
        clear HP
        go_wp2_with fail
        refine HF.out.mono ?_
        rintro e w5 ⟨rfl, hb⟩
        have HBB := Lib.hid (HM2.out.both.kept hb)
        clear hb HF
        go_wp2_with fail
        exact HKK.out _ _ _ _ _ _ _ _ _ _ _ _ _ _ _ _ _ _ _ _ _ _ _ _ _ _ _ _ _ _ _ _ _ _ _ _ _ _ _ _ _ _ _ _ _ _ _ _ _ _ _ _ _ _ _ _ _ _ _ _ _ _ _ _ _ _ _ _ _ _ _ _ _ _ _ _ _ _ _ _ _ _ _ _ _ _ _ _ _ _ _ _ (HBB.out)
    · by_cases c2 : what = 2
      · subst c2
        clear hth c0 c1
        have hMd := HM2.out.kept (Below.refl wc.heap.size wc).drew
        obtain ⟨W0, hW0⟩ : ∃ W0, W0 = wc.drew := ⟨_, rfl⟩
        rw [← hW0] at hMd
        have HA := Lib.hid (fun W (z : Chg (Foot b s h) W0 W) => act_cells ((z.block A hMd.lt HNF.out).trans hMd.blk))
        have HA2 := Lib.hid (fun W W' (z : Chg (Foot b s h) W0 W) (z' : Chg (RFoot r t g) W W') => act_cells ((z'.block A (Nat.lt_of_lt_of_le hMd.lt z.size) hMd.nr).trans ((z.block A hMd.lt HNF.out).trans hMd.blk)))
        rcases hMd.both.bump V y with ⟨E, hP, hQ⟩ | hP
        · have HP := Lib.hid hP
          have HQ := Lib.hid hQ
          have HBK := Lib.hid (fun W (z : Below W0.heap.size W0 W) => hMd.both.kept z)
          clear hP hQ hMd a0 rc0 rc1
          go_wp2_with fail
          go_region_held3 (fun w' => w'.cell? ⟨A, 1, none⟩ = some (.int .i64 V) ∧ w'.cell? ⟨A, 2, none⟩ = some (.int .i64 y)) (first | with_reducible exact k4 | with_reducible exact k5 | go_keep)
            (first
              | (go_at_call 11; rw [← hW0]; (with_reducible refine HP.out.mono ?_); rintro e w4 ⟨rfl, hb4⟩; have k4 := (HA.out _ (.of_below hb4)).2)
              | (go_at_call 12; (with_reducible refine (HQ.out _ hb4).mono ?_); rintro e w5 ⟨rfl, rfl⟩; have k5 := k4; have HE := Lib.hid (HBK.out _ hb4)))
          go_wp2_with fail
          exact HKK.out _ _ _ _ _ _ _ _ _ _ _ _ _ _ _ _ _ _ _ _ _ _ _ _ _ _ _ _ _ _ _ _ _ _ _ _ _ _ _ _ _ _ _ _ _ _ _ _ _ _ _ _ _ _ _ _ _ _ _ _ _ _ _ _ _ _ _ _ _ _ _ _ _ _ _ _ _ _ _ _ _ _ _ _ _ _ _ _ _ _ _ _ (HE.out)
        · have HP := Lib.hid hP
          clear hP hMd a0 rc0 rc1
          go_wp2_with fail
          go_region_held3 (fun w' => w'.cell? ⟨A, 1, none⟩ = some (.int .i64 V) ∧ w'.cell? ⟨A, 2, none⟩ = some (.int .i64 y)) (first | with_reducible exact k4 | with_reducible exact k5 | go_keep)
            (first
              | (go_at_call 11; rw [← hW0]; (with_reducible refine HP.out.mono ?_); rintro e w4 ⟨rfl, hc4, hQ⟩; (unfold BumpB at hQ); have HQ := Lib.hid hQ; clear hQ; have k4 := (HA.out _ hc4).2)
              | (go_at_call 12; (with_reducible refine (HQ.out).mono ?_); rintro e w5 ⟨rfl, sc5, hc5, hB5⟩; have k5 := (HA2.out _ _ hc4 hc5).2; have HE := Lib.hid hB5; clear hB5))
          go_wp2_with fail
          exact HKK.out _ _ _ _ _ _ _ _ _ _ _ _ _ _ _ _ _ _ _ _ _ _ _ _ _ _ _ _ _ _ _ _ _ _ _ _ _ _ _ _ _ _ _ _ _ _ _ _ _ _ _ _ _ _ _ _ _ _ _ _ _ _ _ _ _ _ _ _ _ _ _ _ _ _ _ _ _ _ _ _ _ _ _ _ _ _ _ _ _ _ _ _ (HE.out)
      · have f0 : (what == 0) = false := by rw [beq_eq_false_iff_ne]; exact c0
        have f1 : (what == 1) = false := by rw [beq_eq_false_iff_ne]; exact c1
        have f2 : (what == 2) = false := by rw [beq_eq_false_iff_ne]; exact c2
        have HP := Lib.hid HM2.out.both.halve
        clear hth c0 c1 c2 a1 a2
        go_wp2_with fail
        refine HP.out.mono ?_
        rintro e w4 ⟨rfl, hH⟩
        have HH := Lib.hid hH
        obtain ⟨r0, r1⟩ : w4.cell? ⟨r, 0, none⟩ = some (.slice (some ⟨t, 0, none⟩) n n) ∧ w4.cell? ⟨r, 1, none⟩ = some (.slice (some ⟨g, 0, none⟩) n n) := by
          obtain ⟨l, len, _, rq, _⟩ := hH
          exact rq.cells
        clear hH HP rc0 rc1 a0
        go_wp2_with fail
        clear r0 r1
        go_loopw [56] (fun jv wq => ∃ j : Nat, j ≤ n ∧ jv = .int .i64 j ∧ HalfB w b s h n r t g sc ins j wq) (fun jv _ => n - (intOf jv).toNat)
        case atStart => exact ⟨0, Nat.zero_le _, rfl, HH.out⟩
        case round =>
          clear HH
          obtain ⟨j, hj, rfl, hH⟩ := hrel
          have HH := Lib.hid hH
          by_cases hjn : j < n
          · have HN := Lib.hid (hH.step hjn)
            obtain ⟨l, len, st, rq, _, _, _, hs⟩ := hH
            have hls : sc.length = n := by rw [← half_len sc j]; exact rq.ls
            obtain ⟨r0, r1⟩ := rq.cells
            have hcj := rq.score.cell (k := j) (by rw [half_len, hls]; exact hjn)
            rw [el_half (by rw [hls]; exact hjn), if_neg (by omega)] at hcj
            have hfj := rq.score.frozen j
            have hx := hs j hjn
            have hjn2 : (j : Int) < (n : Int) := by omega
            generalize el sc j = X at *
            obtain ⟨hx0, hx1⟩ := hx
            clear st rq hs hls
            go_wp2_with fail
            go_roundw
            case rel => exact ⟨j + 1, by omega, by go_num, HN.out⟩
            case measure => simp [intOf]; omega
          · obtain rfl : j = n := by omega
            clear hH
            go_wp2_with fail
            exact HKK.out _ _ _ _ _ _ _ _ _ _ _ _ _ _ _ _ _ _ _ _ _ _ _ _ _ _ _ _ _ _ _ _ _ _ _ _ _ _ _ _ _ _ _ _ _ _ _ _ _ _ _ _ _ _ _ _ _ _ _ _ _ _ _ _ _ _ _ _ _ _ _ _ _ _ _ _ _ _ _ _ _ _ _ _ _ _ _ _ _ _ _ _ (HH.out.done)
end Go.Proofs.Ytkepengljbeipaa
