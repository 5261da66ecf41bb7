/-
  SexpJoins: the law's walk.
-/
import Derived.Test.YtgojipnhnmigpaaSxDeep
set_option linter.unusedVariables false
set_option linter.unusedSimpArgs false
namespace Go.Proofs.Ytgojipnhnmigpaa
open Go.RowKit Sx

/-- append, where its run is known; a guard may stand ahead. -/
theorem wpList_app_run {ops : Array Oper} {rest : List Oper} {o : Oper} {aa : Act} {w : World} {Q : Exit → Act → World → Prop} {t : TypeId} (s x : Operand) (ho : o.op = .call { callee := .builtin .append, args := #[s, x], argTypes := #[t, t] })
    (hw : Region.wanted o (yielded ops aa.tmps) = true) {v xv v' : Value} {w' : World} (hv : aa.eval s = v) (hx : aa.eval x = xv) (hr : (Builtin.append_ #[t, t] o.type #[v, xv]).run Try.prog w = .ok v' w') (h : wpList Try.prog ops Q rest (aa.put o.dst v') w') : wpList Try.prog ops Q (o :: rest) aa w :=
  wpList_step fun K hK => by
    rw [if_pos hw]
    unfold Oper.wp execOp
    simp only [ho, resolve, invoke, builtin, Sem.run_bind, Sem.run_pure, Result.andThen_ok, List.map_toArray, List.map_cons, List.map_nil, hv, hx, hr]
    exact hK _ _ h
section
variable {w w' : World} {B : Nat} {v : Value} {l : List Tk}
theorem TksAt.cells {ad : Addr} {l : List Tk} (h : TksAt w (some ad) l) : ∀ j u, (kcells l)[j]? = some u → w.cell? (ad.add j) = some u := by
  intro j u hu
  rcases h with rfl | ⟨g, off, e, h⟩
  · simp [kcells] at hu
  · cases e
    rw [Addr.add_mid]
    exact h j u hu
theorem run_app_toks (ty : TypeId) (h : RowK w B v l) {src : Option Addr} {c : Nat} {news : List Tk} (hs : TksIn w src news c) (hl : l.length + news.length ≤ 1000000) (hB : B ≤ w.heap.size) :
    ∃ v' w', (Builtin.append_ #[22, 22] ty #[v, .slice src news.length c]).run Try.prog w = .ok v' w' ∧ RowK w' B v' (l ++ news) ∧ Chg (fun j => B ≤ j) w w' := by
  obtain ⟨i, i1, i2, i3, i4⟩ := info_token'
  rcases hs.mid with ⟨rfl, hc⟩ | ⟨ad, rfl⟩
  · have hn : news = [] := List.eq_nil_of_length_eq_zero (by have := hs.cap; omega)
    subst hn
    subst hc
    exact ⟨v, w, run_append_owned_none (P := Try.prog) (w := w) B 22 ty 35 i 3 Try.underlying22 i1 v l.length (kcells l) h, by simpa using h, .refl _ _⟩
  · obtain ⟨v', w', q1, q2, q3, q4⟩ := run_append_mine (P := Try.prog) (w := w) (base := B) 22 ty 35 i _ 3 32 Try.underlying22 i1 i2 i3 i4 rfl (by omega) v l.length (kcells l) h ad news.length c (kcells news) (by rw [kcells_len]) hs.at_.cells (kcells_one news) (by unfold maxLen; omega) (by omega) hB
    exact ⟨v', w', q1, by rw [RowK, List.length_append, kcells_app]; exact q2, .of_grown q3 (fun k hk => (World.ownsRow.lt h k hk).1)⟩
/-- A row of expressions of one's own, which lie in older memory. -/
def RowX (w : World) (B : Nat) (v : Value) (y : Fo) : Prop := RowS w B (fun k => k < B) v y
theorem RowX.new (w : World) : RowX (w.alloc (.cells #[] 38)) w.heap.size (.slice (some ⟨w.heap.size, 0, none⟩) 0 0) .nil :=
  ⟨[], World.ownsRow_lit w #[] 0 (Nat.le_refl _) (by unfold maxLen; omega) rfl, rfl⟩
theorem RowX.told {y : Fo} (h : RowX w B v y) : SlAt w anyB v y := RowS.slice h (fun _ _ _ => trivial) (fun _ _ => trivial)
theorem run_app_sexps (ty : TypeId) {y k : Fo} (h : RowX w B v y) {xv : Value} (hs : SlAt w (fun k => k < B) xv k) (hl : y.len + k.len ≤ 1000000) (hB : B ≤ w.heap.size) :
    ∃ v' w', (Builtin.append_ #[24, 24] ty #[v, xv]).run Try.prog w = .ok v' w' ∧ RowX w' B v' (y.app k) ∧ Chg (fun j => B ≤ j) w w' := by
  obtain ⟨i, i1, i2, i3, i4⟩ := info_sexp'
  obtain ⟨C, hC1, hC2⟩ := h
  obtain ⟨a, c, D, rfl, h2, h3, h4, h5, h6⟩ := hs
  have hD : D.length = k.len * 5 := h6.len
  cases a with
  | none =>
    have hc := h4 rfl
    subst hc
    have hk : k = .nil := Fo.len_zero (by omega)
    subst hk
    exact ⟨v, w, run_append_owned_none (P := Try.prog) (w := w) B 24 ty 38 i 5 Try.underlying24 i1 v y.len C hC1, ⟨C, by rw [Fo.app_nil]; exact hC1, by rw [Fo.app_nil]; exact hC2⟩, .refl _ _⟩
  | some ad =>
    have hcells : ∀ j u, D[j]? = some u → w.cell? (ad.add j) = some u := by
      intro j u hu
      rcases h5 with e | ⟨g, cur, e, _, hb, hd⟩
      · have := (List.getElem?_eq_some_iff.1 hu).1
        omega
      · cases e
        rw [Addr.add_mid, Nat.zero_add]
        rw [← hd, List.getElem?_take] at hu
        split at hu
        · simp only [World.cell?, hb]
          simpa using hu
        · cases hu
    obtain ⟨v', w', q1, q2, q3, q4⟩ := run_append_mine (P := Try.prog) (w := w) (base := B) 24 ty 38 i _ 5 64 Try.underlying24 i1 i2 i3 i4 rfl (by omega) v y.len C hC1 ad k.len c D hD hcells h6.one (by unfold maxLen; omega) (by omega) hB
    have hc : Chg (fun j => B ≤ j) w w' := .of_grown q3 (fun k hk => (World.ownsRow.lt hC1 k hk).1)
    exact ⟨v', w', q1, ⟨C ++ D, by rw [Fo.len_app]; exact q2, (hC2.app h6).turn hc (fun _ h _ e => by omega) (fun _ h _ => h)⟩, hc⟩
end
theorem step_len {t : Tk} {fs gs : List Fr} {N : Nat} (h : stepF fs t = .ok gs) (hN : ∀ f ∈ fs, f.acc.len ≤ N) : ∀ f ∈ gs, f.acc.len ≤ N + 1 := by
  have hx : ∀ (f : Fr) (l : Bool) (t : Tk) (k : Fo), f.acc.len ≤ N → (f.put (.one l t k)).acc.len ≤ N + 1 := fun f l t k hf => by rw [Fr.put, Fo.len_snoc]; omega
  unfold stepF at h
  split at h
  · split at h
    · cases h
    · cases h
      intro f hf
      rcases List.mem_cons.1 hf with rfl | hf
      · exact Nat.zero_le _
      · exact Nat.le_succ_of_le (hN f hf)
  · split at h
    · split at h
      · rename_i f g r
        cases h
        intro x hx'
        rcases List.mem_cons.1 hx' with rfl | hx'
        · exact hx g _ _ _ (hN g (by simp))
        · exact Nat.le_succ_of_le (hN x (by simp [hx']))
      · cases h
    · split at h
      · rename_i f r
        cases h
        intro x hx'
        rcases List.mem_cons.1 hx' with rfl | hx'
        · exact hx f _ _ _ (hN f (by simp))
        · exact Nat.le_succ_of_le (hN x (by simp [hx']))
      · cases h
theorem run_len : ∀ (ts : List Tk) (fs : List Fr) (x : Fo) (N : Nat), fs ≠ [] → (∀ f ∈ fs, f.acc.len ≤ N) → runF fs ts = .ok x → x.len ≤ N + ts.length
  | [], fs, x, N, hn, hN, h => by
    match fs with
    | [] => exact absurd rfl hn
    | [f] => simp [runF] at h; subst h; exact hN f (by simp)
    | _ :: _ :: _ => simp [runF] at h
  | t :: ts, fs, x, N, hn, hN, h => by
    cases hs : stepF fs t with
    | error e => rw [run_bad hs] at h; cases h
    | ok gs =>
      rw [run_ok hs] at h
      have := run_len ts gs x (N + 1) (step_some hn hs).1 (step_len hs hN) h
      simp only [List.length_cons]
      omega
/-- No more expressions than tokens. -/
theorem read_len {ts : List Tk} {x : Fo} (h : readS ts = .ok x) : x.len ≤ ts.length := by
  have := run_len ts [base] x 0 (by simp) (by simp [base, Fo.len]) h
  omega
set_option maxRecDepth 100000 in
set_option maxHeartbeats 16000000 in
theorem joins_walk8 {w : World} {a b : Option Addr} {ts us : List Tk} {c d : Nat} (hi : TksIn w a ts c) (hj : TksIn w b us d) : Calls Try.prog 5 #[.slice a ts.length c, .slice b us.length d] w (Yes w) := by
  have HSP := Lib.hid (speaks08 w)
  have HIJ : Hid (∀ W, Below w.heap.size w W → TksIn W a ts c ∧ TksIn W b us d) := Lib.hid fun W hb => ⟨⟨hi.at_.kept hb, hi.cap, hi.capped, hi.mid⟩, ⟨hj.at_.kept hb, hj.cap, hj.capped, hj.mid⟩⟩
  obtain ⟨L, hL⟩ : ∃ L, ts.length = L := ⟨_, rfl⟩
  obtain ⟨M, hM⟩ : ∃ M, us.length = M := ⟨_, rfl⟩
  have HL := Lib.hid (And.intro hL hM)
  have HR1 : Hid (L ≤ 1000 → ∀ W, Below w.heap.size w W → Calls Try.prog 7 #[.slice a L c] W (SRead ts W)) := Lib.hid fun h W hb => by rw [← hL]; exact SRead_any (HIJ.out W hb).1 (by omega)
  have HR2 : Hid (M ≤ 1000 → ∀ W, Below w.heap.size w W → Calls Try.prog 7 #[.slice b M d] W (SRead us W)) := Lib.hid fun h W hb => by rw [← hM]; exact SRead_any (HIJ.out W hb).2 (by omega)
  rw [hL, hM]
  clear hL hM hi hj
  by_cases hl : 1000 < L
  · have hl' : (1000 : Int) < (L : Int) := by omega
    go_enter Try.func5, Try.ntmps5
    go_wp2_with fail
    refine HSP.out.mono ?_
    rintro e w1 ⟨rfl, hb1⟩
    have HB1 := Lib.hid hb1
    clear hb1
    go_wp2_with fail
    go_ret
    exact ⟨rfl, HB1.out⟩
  · have hl' : ¬ (1000 : Int) < (L : Int) := by omega
    by_cases hm : 1000 < M
    · have hm' : (1000 : Int) < (M : Int) := by omega
      go_enter Try.func5, Try.ntmps5
      go_wp2_with fail
      refine HSP.out.mono ?_
      rintro e w1 ⟨rfl, hb1⟩
      have HB1 := Lib.hid hb1
      clear hb1
      go_wp2_with fail
      go_ret
      exact ⟨rfl, HB1.out⟩
    · have hm' : ¬ (1000 : Int) < (M : Int) := by omega
      have HSM : Hid (L ≤ 1000 ∧ M ≤ 1000) := Lib.hid (by omega)
      clear hl hm
      go_enter Try.func5, Try.ntmps5
      go_wp2_with fail
      refine HSP.out.mono ?_
      rintro e w1 ⟨rfl, hb1⟩
      have HB1 := Lib.hid hb1
      clear hb1 HSP
      go_wp2_with fail
      refine (HR1.out HSM.out.1 w1 HB1.out).mono ?_
      rintro e w2 ⟨hb2, h2⟩
      have hb20 := HB1.out.trans (hb2.mono HB1.out.size)
      obtain ⟨x, hx⟩ : ∃ x : Int × Int × Value, e = .returned (.tuple #[x.2.2, .agg #[.int .i64 x.1, .int .i64 x.2.1]]) ∧ (x.1 ≠ 0 ∨ x.1 = 0 ∧ ∃ y, readS ts = .ok y ∧ SlAt w2 (fun k => w1.heap.size ≤ k) x.2.2 y) ∧ x.2.2 = x.2.2 := by
        cases hrs : readS ts with
        | error x =>
          rw [hrs] at h2
          exact ⟨(x.1, x.2, .slice none 0 0), h2.2, .inl h2.1, rfl⟩
        | ok y =>
          rw [hrs] at h2
          obtain ⟨v, h3, h4⟩ := h2
          exact ⟨(0, 0, v), h3, .inr ⟨rfl, y, rfl, h4⟩, rfl⟩
      obtain ⟨rfl, hx1, _⟩ := hx
      obtain ⟨cc, pp, v1⟩ := x
      dsimp only at hx1 ⊢
      clear h2
      have b3 : Below w2.heap.size w2 (w2.alloc (.cells #[.int .i64 cc, .int .i64 pp] 27)) := box_below w2 _ _
      have hb3 := hb20.trans (b3.mono hb20.size)
      have HR3 := Lib.hid (HR2.out HSM.out.2 _ hb3)
      have HF := Lib.hid (rangeAt_new w2 [.int .i64 cc, .int .i64 pp] 27)
      have HX1 := Lib.hid hx1
      have HB3 := Lib.hid (And.intro hb3 b3)
      clear hb2 hb20 b3 hb3 hx1
      go_wp2_with fail
      refine HR3.out.mono ?_
      rintro e w4 ⟨hb4, h4⟩
      obtain ⟨x, hx⟩ : ∃ x : Int × Int × Value, e = .returned (.tuple #[x.2.2, .agg #[.int .i64 x.1, .int .i64 x.2.1]]) ∧ (x.1 ≠ 0 ∨ x.1 = 0 ∧ ∃ y, readS us = .ok y ∧ SlAt w4 (fun k => (w2.alloc (.cells #[.int .i64 cc, .int .i64 pp] 27)).heap.size ≤ k) x.2.2 y) ∧ x.2.2 = x.2.2 := by
        cases hrs : readS us with
        | error x =>
          rw [hrs] at h4
          exact ⟨(x.1, x.2, .slice none 0 0), h4.2, .inl h4.1, rfl⟩
        | ok y =>
          rw [hrs] at h4
          obtain ⟨v, h3, h4⟩ := h4
          exact ⟨(0, 0, v), h3, .inr ⟨rfl, y, rfl, h4⟩, rfl⟩
      obtain ⟨rfl, hx2, _⟩ := hx
      obtain ⟨cd, pq, v2⟩ := x
      dsimp only at hx2 ⊢
      clear h4
      obtain ⟨W5, hW5⟩ : ∃ W5, W5 = w4.alloc (.cells #[.int .i64 cd, .int .i64 pq] 27) := ⟨_, rfl⟩
      have b5 : Below w4.heap.size w4 W5 := by rw [hW5]; exact box_below w4 _ _
      have hb40 := HB3.out.1.trans (hb4.mono HB3.out.1.size)
      have HB5 := Lib.hid (hb40.trans (b5.mono hb40.size))
      have f1 : (w4.alloc (.cells #[.int .i64 cd, .int .i64 pq] 27)).cell? ⟨w2.heap.size, 0, none⟩ = some (.int .i64 cc) := by
        have h0 : w4.cell? ⟨w2.heap.size, 0, none⟩ = some (.int .i64 cc) := (hb4.cell (p := ⟨w2.heap.size, 0, none⟩) (World.block_lt_of_cell? _ _ (HF.out 0 _ rfl))).trans (HF.out 0 _ rfl)
        exact ((box_below w4 _ _).cell (p := ⟨w2.heap.size, 0, none⟩) (World.block_lt_of_cell? _ _ h0)).trans h0
      have HX2 := Lib.hid hx2
      have HB4 := Lib.hid (And.intro hb4 b5)
      have HW5 := Lib.hid hW5
      clear hb4 b5 hb40 HR3 hx2 hW5
      by_cases hc0 : cc = 0
      · subst hc0
        by_cases hd0 : cd = 0
        · subst hd0
          obtain ⟨_, y, hy, hv1⟩ := HX1.out.resolve_left (by simp)
          obtain ⟨_, z, hz, hv2⟩ := HX2.out.resolve_left (by simp)
          have HRJ := Lib.hid (read_joined hy hz)
          have hyl := read_len hy
          have hzl := read_len hz
          have HV := Lib.hid (And.intro ((hv1.kept HB3.out.2).kept HB4.out.1) hv2)
          have HYZ : Hid (y.len ≤ 1000 ∧ z.len ≤ 1000) := Lib.hid (by have := HSM.out; have := HL.out; omega)
          have b6 := box_below W5 #[] 35
          have hb6 := HB5.out.trans (b6.mono HB5.out.size)
          obtain ⟨v6, w6, r6, k6, c6⟩ := run_app_toks (ty := 22) (RowK.new W5) (HIJ.out _ hb6).1 (by have := HSM.out; have := HL.out; simp; omega) b6.size
          have hb66 : Below w.heap.size w w6 := hb6.trans ((c6.below (fun _ h => h) b6.size).mono HB5.out.size)
          have hB6 : W5.heap.size ≤ w6.heap.size := Nat.le_trans b6.size c6.size
          obtain ⟨v7, w7, r7, k7, c7⟩ := run_app_toks (ty := 22) k6 (HIJ.out _ hb66).2 (by have := HSM.out; have := HL.out; simp; omega) hB6
          have hb77 : Below w.heap.size w w7 := hb66.trans ((c7.below (fun _ h => h) hB6).mono HB5.out.size)
          obtain ⟨a7, c77, hv7, hin7⟩ := k7.toks
          have hl7 : ([] ++ ts ++ us).length = L + M := by have := HL.out; simp; omega
          have hsr := SRead_any hin7 (by rw [hl7]; have := HSM.out; omega)
          rw [hl7] at hv7 hsr
          subst hv7
          rw [List.nil_append] at hsr
          rw [HL.out.1] at r6
          rw [HL.out.2] at r7
          have hs5 : (w4.alloc (.cells #[.int .i64 0, .int .i64 pq] 27)).heap.size = w4.heap.size + 1 := by simp
          rw [HW5.out, hs5] at r6
          have HA6 := Lib.hid r6
          have HA7 := Lib.hid r7
          have HSR := Lib.hid hsr
          have HB7 := Lib.hid (And.intro hb77 ((Chg.of_below (S := fun k => W5.heap.size ≤ k) b6).step (c6.step c7)))
          clear hs5 hy hz hv1 hv2 hyl hzl b6 hb6 r6 k6 c6 hb66 hB6 r7 k7 c7 hb77 hin7 hl7 hsr
          go_wp2_with (first | (refine wpList_app_run (.tmp 40) (.tmp 41) rfl (by rfl) rfl rfl HA6.out ?_) | (refine wpList_app_run (.tmp 42) (.tmp 43) rfl (by rfl) rfl rfl HA7.out ?_))
          refine HSR.out.mono ?_
          rintro e w8 ⟨hb8, h8⟩
          rw [HRJ.out] at h8
          obtain ⟨v8, rfl, hv8⟩ := h8
          obtain ⟨W9, hW9⟩ : ∃ W9, W9 = w8.alloc (.cells #[.int .i64 0, .int .i64 0] 27) := ⟨_, rfl⟩
          have b9 : Below w8.heap.size w8 W9 := by rw [hW9]; exact box_below w8 _ _
          have hb80 := HB7.out.1.trans (hb8.mono HB7.out.1.size)
          have hb90 := hb80.trans (b9.mono hb80.size)
          have f9 : (w8.alloc (.cells #[.int .i64 0, .int .i64 0] 27)).cell? ⟨w8.heap.size, 0, none⟩ = some (.int .i64 0) := by simp
          have hlow : Chg (fun k => W5.heap.size ≤ k) W5 W9 := (HB7.out.2.step (.of_below hb8)).step (.of_below b9)
          have hs1 : SlAt W9 (fun k => k < W9.heap.size) v1 y := (HV.out.1.kept HB4.out.2).any.turn (S := fun k => W5.heap.size ≤ k) hlow (fun k _ h e => by omega) (fun k _ h => Nat.lt_of_lt_of_le h hlow.size)
          have hs2 : SlAt W9 (fun k => k < W9.heap.size) v2 z := (HV.out.2.kept HB4.out.2).any.turn (S := fun k => W5.heap.size ≤ k) hlow (fun k _ h e => by omega) (fun k _ h => Nat.lt_of_lt_of_le h hlow.size)
          have b10 := box_below W9 #[] 38
          obtain ⟨v11, w11, r11, k11, c11⟩ := run_app_sexps (ty := 24) (RowX.new W9) (hs1.kept b10) (by have := HYZ.out; simp [Fo.len]; omega) b10.size
          have hB11 : W9.heap.size ≤ w11.heap.size := Nat.le_trans b10.size c11.size
          obtain ⟨v12, w12, r12, k12, c12⟩ := run_app_sexps (ty := 24) k11 ((hs2.kept b10).turn c11 (fun k h _ e => by omega) (fun k h _ => h)) (by have := HYZ.out; rw [Fo.len_app]; simp [Fo.len]; omega) hB11
          have h12 : SlAt w12 anyB v8 (y.app z) := (((((hv8.kept b9).mono (G := fun k => k < W9.heap.size) (fun k _ h => h)).kept b10).turn (S := fun j => W9.heap.size ≤ j) (G := fun k => k < W9.heap.size) c11 (fun k h _ e => by omega) (fun _ h _ => h)).turn (S := fun j => W9.heap.size ≤ j) (G := fun k => k < W9.heap.size) c12 (fun k h _ e => by omega) (fun _ h _ => h)).any
          have HSAME := Lib.hid (LSame_any h12 (by have := k12.told; rw [Fo.nil_app] at this; exact this))
          have hs9 : (w8.alloc (.cells #[.int .i64 0, .int .i64 0] 27)).heap.size = w8.heap.size + 1 := by simp
          rw [hW9, hs9] at r11
          have HA11 := Lib.hid r11
          have HA12 := Lib.hid r12
          have HB12 := Lib.hid (hb90.trans ((((Chg.of_below (S := fun k => W9.heap.size ≤ k) b10).step (c11.step c12)).below (fun _ h => h) (Nat.le_refl _)).mono hb90.size))
          clear hs9 hb8 hv8 hW9 b9 hb80 hb90 hlow hs1 hs2 b10 r11 k11 c11 hB11 r12 k12 c12 h12
          go_wp2_with (first | (refine wpList_app_run (.tmp 53) (.tmp 54) rfl (by rfl) rfl rfl HA11.out ?_) | (refine wpList_app_run (.tmp 55) (.tmp 56) rfl (by rfl) rfl rfl HA12.out ?_))
          refine HSAME.out.mono ?_
          rintro e w13 ⟨rfl, hb13⟩
          have HE := Lib.hid (HB12.out.trans (hb13.mono HB12.out.size))
          clear hb13 HSAME
          go_wp2_with fail
          go_ret
          exact ⟨rfl, HE.out⟩
        · have hd1 : (cd == 0) = false := by simpa using hd0
          rw [HW5.out] at HB5
          clear hd0
          go_wp2_with fail
          go_ret
          exact ⟨rfl, HB5.out⟩
      · have hc1 : (cc == 0) = false := by simpa using hc0
        rw [HW5.out] at HB5
        clear hc0
        go_wp2_with fail
        go_ret
        exact ⟨rfl, HB5.out⟩
end Go.Proofs.Ytgojipnhnmigpaa
