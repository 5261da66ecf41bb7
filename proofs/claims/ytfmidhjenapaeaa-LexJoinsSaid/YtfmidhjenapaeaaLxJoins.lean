/-
  LexJoins: the law's walk.
-/
import Derived.Test.YtfmidhjenapaeaaLxLaw
import Derived.Test.YtfmidhjenapaeaaLxJoin
set_option linter.unusedVariables false
set_option linter.unusedSimpArgs false
namespace Go.Proofs.Ytfmidhjenapaeaa
open Go.RowKit Lx

section
variable {w w' W : World} {B : Nat} {v : Value} {xs : List Int}
theorem Row8.mono {B' : Nat} (h : Row8 w B v xs) (hB : B' ≤ B) : Row8 w B' v xs := by
  obtain ⟨h1, h2 | ⟨g, cap, cur, hv, hb, r⟩⟩ := h
  · exact ⟨h1, .inl h2⟩
  · exact ⟨h1, .inr ⟨g, cap, cur, hv, Nat.le_trans hB hb, r⟩⟩
/-- The comment's row: as it was laid (the bytes of a text, full); or a row of one's own. -/
def MidAt (w : World) (B : Nat) (v : Value) (xs : List Int) : Prop :=
  (∃ g, v = .slice (some ⟨g, 0, none⟩) 2 2 ∧ xs = [10, 59] ∧ BytesAt w (some ⟨g, 0, none⟩) [10, 59] ∧ B ≤ g) ∨ Row8 w B v xs
theorem MidAt.value (h : MidAt w B v xs) : ∃ a c, v = .slice a xs.length c ∧ BytesAt w a xs ∧ xs.length ≤ c ∧ ∀ g off, a = some ⟨g, off, none⟩ → xs ≠ [] → B ≤ g := by
  rcases h with ⟨g, rfl, rfl, h1, h2⟩ | h
  · exact ⟨_, _, rfl, h1, by simp, fun g' off e _ => by cases e; exact h2⟩
  · obtain ⟨a, c, rfl, h1, h2⟩ := h.value
    exact ⟨a, c, rfl, h1, h2, fun g off e _ => by subst e; exact (World.ownsRow.lt h g rfl).1⟩
theorem MidAt.chg {S : Nat → Prop} (h : MidAt w B v xs) (hc : Chg S w w') (hS : ∀ k, B ≤ k → k < w.heap.size → ¬ S k) : MidAt w' B v xs := by
  rcases h with ⟨g, rfl, rfl, h1, h2⟩ | h
  · have hl := h1.lt (by simp)
    exact .inl ⟨g, rfl, rfl, h1.chg hc (fun g' off e _ => by cases e; exact hS g h2 hl), h2⟩
  · exact .inr (h.chg hc hS)
/-- One byte more. -/
theorem wpList_mid1 {ops : Array Oper} {rest : List Oper} {o : Oper} {aa : Act} {Q : Exit → Act → World → Prop} (hgd : o.guard = none) (s x : Operand)
    (ho : o.op = .call { callee := .builtin .append, args := #[s, x], argTypes := #[22, 22] }) (B : Nat) (v : Value) (xs : List Int) (hv : aa.eval s = v) (h : MidAt w B v xs)
    (ad : Addr) (c : Nat) (y : Int) (hx : aa.eval x = .slice (some ad) 1 c) (hs : BytesAt w (some ad) [y]) (hl : xs.length + 1 ≤ 1000000) (hB : B ≤ w.heap.size)
    (hk : ∀ v' w', Row8 w' B v' (xs ++ [y]) → Chg (fun j => B ≤ j) w w' → wpList Try.prog ops Q rest (aa.put o.dst v') w') : wpList Try.prog ops Q (o :: rest) aa w := by
  rcases h with ⟨g, rfl, rfl, h1, h2⟩ | h
  · obtain ⟨i, i1, i2, i3, i4⟩ := info_u8'
    have hr := run_append_grow (P := Try.prog) w 22 o.type 5 i (.int .u8 0) Try.underlying22 i1 i2 ⟨g, 0, none⟩ 2 2 (bys [10, 59]) (by rw [i3]; rfl) (bytes_src h1 rfl) ad 1 c (bys [y]) (by rw [i3]; rfl) (bytes_src hs rfl) (by omega) (by omega) (by rw [i4]; exact growslice_fits (by omega) (by omega))
    have hge := grownCap_ge w (2 + 1) 2 5
    have hcm : grownCap w (2 + 1) 2 5 ≤ maxLen := grownCap_le_maxLen w (2 + 1) 2 5 (by unfold maxLen; omega)
    refine wpList_plain hgd fun K hK => ?_
    unfold Oper.wp execOp
    simp only [ho, resolve, invoke, builtin, Sem.run_bind, Sem.run_pure, Result.andThen_ok, List.map_toArray, List.map_cons, List.map_nil, hv, hx, hr]
    refine hK _ _ (hk _ _ ⟨by simp [bys], .inr ⟨w.heap.size, _, _, rfl, hB, heap_alloc_new w.drew _, by simpa using hge, hcm, ?_, ?_⟩⟩ ?_)
    · have e0 : (Builtin.zeroCells (Value.int .u8 0).cells (grownCap w (2 + 1) 2 5 - (2 + 1))).size = grownCap w (2 + 1) 2 5 - (2 + 1) := by simp [size_zeroCells, Value.cells]
      rw [Array.size_append, Array.size_append, e0, List.size_toArray, List.size_toArray, bys_len, bys_len]
      simp only [List.length_cons, List.length_nil]
      omega
    · simp only [Array.toList_append, List.append_assoc]
      rw [← List.append_assoc, ← bys_app]
      exact List.take_left' (by simp [bys])
    · exact .of_below (((Below.refl _ _).drew).alloc (Nat.le_refl _) _)
  · exact wpList_app8 hgd s x ho B v xs hv h (some ad) 1 c [y] hx rfl hs ad rfl hl hB (fun v' w' q1 q2 => hk v' w' q1 (h.grown_chg q2))
theorem toks_take {a : Option Addr} {l : List Tok} (h : ToksAt w a l) (n : Nat) : ToksAt w a (l.take n) := by
  rcases h with e | ⟨g, off, e, h⟩
  · exact .inl (by rw [e]; simp)
  · refine .inr ⟨g, off, e, fun j u hu => h j u ?_⟩
    have : tcells l = tcells (l.take n) ++ tcells (l.drop n) := by rw [← tcells_app, List.take_append_drop]
    rw [this, List.getElem?_append_left (List.getElem?_eq_some_iff.1 hu).1]
    exact hu
/-- Where a piece of tokens begins. -/
def cutT (A : Option Addr) (n c : Nat) : Option Addr := if c = n then A else A.map (fun x => x.add (n * 3))
theorem toks_drop {a : Option Addr} {l : List Tok} {n c : Nat} (h : ToksAt w a l) (hc : l.length ≤ c) : ToksAt w (cutT a n c) (l.drop n) := by
  by_cases hn : n < l.length
  · rcases h with e | ⟨g, off, e, h⟩
    · subst e; simp at hn
    · refine .inr ⟨g, off + n * 3, ?_, fun j u hu => ?_⟩
      · rw [e, cutT, if_neg (by omega)]
        simp [Addr.add]
      · have : tcells l = tcells (l.take n) ++ tcells (l.drop n) := by rw [← tcells_app, List.take_append_drop]
        have hl : (tcells (l.take n)).length = n * 3 := by rw [tcells_len, List.length_take]; congr 1; omega
        rw [show off + n * 3 + j = off + (n * 3 + j) by omega]
        refine h (n * 3 + j) u ?_
        rw [this, List.getElem?_append_right (by omega), hl, Nat.add_sub_cancel_left]
        exact hu
  · exact .inl (List.drop_eq_nil_of_le (by omega))
theorem run_head_op {o : Oper} {aa : Act} {w : World} (x hi : Operand) (ho : o.op = .slice 24 x none (some hi) none) (A : Option Addr) (n c j : Nat) (hx : aa.eval x = .slice A n c) (hhi : aa.eval hi = .int .i64 (j : Int)) (h2 : j ≤ c) :
    (execOp aa.eval o).run Try.prog w = .ok (.value (.slice A j c)) w := by
  have hsz : (sizeOf (Try.prog.elem 24)).run Try.prog w = .ok 3 w := by kernel_rfl
  have h := run_slice_h (P := Try.prog) w 24 A n c Try.underlying24 .i64 (j : Int) (by omega) (by omega)
  rw [hsz] at h
  have he : (if c = 0 then A else A.map (fun x => x.add (0 * 3))) = A := by
    split
    · rfl
    · cases A with
      | none => rfl
      | some x => simp [Addr.add_zero']
  simp only [Result.andThen_ok, sliced, Int.toNat_natCast, Nat.sub_zero] at h
  rw [he] at h
  unfold execOp
  simp only [ho, hx, hhi, Option.map_some, Option.map_none]
  simp only [Sem.run_bind, run_sliceAt_slice (P := Try.prog) w 24 _ _ _ _ Try.underlying24, h, Result.andThen_ok, Sem.run_pure]
theorem run_tail_op {o : Oper} {aa : Act} {w : World} (x lo : Operand) (ho : o.op = .slice 24 x (some lo) none none) (A : Option Addr) (n c i : Nat) (hx : aa.eval x = .slice A n c) (hlo : aa.eval lo = .int .i64 (i : Int)) (h1 : i ≤ n) :
    (execOp aa.eval o).run Try.prog w = .ok (.value (.slice (cutT A i c) (n - i) (c - i))) w := by
  have hsz : (sizeOf (Try.prog.elem 24)).run Try.prog w = .ok 3 w := by kernel_rfl
  have h := run_slice_l (P := Try.prog) w 24 A n c Try.underlying24 .i64 (i : Int) (by omega) (by omega)
  rw [hsz] at h
  simp only [Result.andThen_ok, sliced, Int.toNat_natCast] at h
  unfold execOp
  simp only [ho, hx, hlo, Option.map_some, Option.map_none]
  simp only [Sem.run_bind, run_sliceAt_slice (P := Try.prog) w 24 _ _ _ _ Try.underlying24, h, Result.andThen_ok, Sem.run_pure, cutT]
/-- Behind the comment's last byte: all that the rest looks at. -/
structure Join6 (w w6 : World) (a0 a1 : Option Addr) (b0 b1 : List Int) (ax ay : Option Addr) (x y : List Tok) (x6 : Addr) (m : List Int) : Prop where
  below : Below w.heap.size w w6
  text0 : BytesAt w6 a0 b0
  text1 : BytesAt w6 a1 b1
  toks0 : ToksAt w6 ax x
  toks1 : ToksAt w6 ay y
  mid : BytesAt w6 (some x6) m
  lit : Row8 (w6.alloc (.cells #[] 5)) w6.heap.size (.slice (some ⟨w6.heap.size, 0, none⟩) 0 0) []
  al : Below w6.heap.size w6 (w6.alloc (.cells #[] 5))
theorem join6 {w W4 w6 : World} {B : Nat} {a0 a1 : Option Addr} {b0 b1 : List Int} {ax ay : Option Addr} {x y : List Tok} {v6 : Value} {D : List Int} (h4 : Below w.heap.size w W4) (h6 : Below W4.heap.size W4 w6) (hv : Row8 w6 B v6 (midL D))
    (ht0 : BytesAt w a0 b0) (ht1 : BytesAt w a1 b1) (hx : ToksAt W4 ax x) (hy : ToksAt W4 ay y) (_ : (midL D).length ≤ 203) : ∃ a6 c6 x6, v6 = .slice (some x6) (midL D).length c6 ∧ a6 = some x6 ∧ Join6 w w6 a0 a1 b0 b1 ax ay x y x6 (midL D) := by
  obtain ⟨a6, c6, rfl, h1, h2⟩ := hv.value
  obtain ⟨x6, rfl⟩ : ∃ x6, a6 = some x6 := by
    rcases h1 with e | ⟨g, off, e, _⟩
    · simp [midL] at e
    · exact ⟨_, e⟩
  have hb := h4.trans (h6.mono h4.size)
  exact ⟨_, c6, x6, rfl, rfl, hb, ht0.kept hb, ht1.kept hb, hx.kept h6, hy.kept h6, h1, World.ownsRow_lit w6 #[] 0 (Nat.le_refl _) (by unfold maxLen; omega) rfl, (Below.refl _ _).alloc (Nat.le_refl _) _⟩
theorem rd_pos (bs : List Int) : ∀ (n i : Nat) (acc l : List Tok), bs.length - i = n → (∀ t ∈ acc, t.pos < bs.length) → rdP bs i acc = .ok l → ∀ t ∈ l, t.pos < bs.length := by
  intro n
  induction n using Nat.strongRecOn with
  | _ n ih =>
    intro i acc l e ha h
    by_cases hi : i < bs.length
    · cases ht : tokP bs i with
      | bad p => rw [rd_bad hi ht] at h; cases h
      | tok k t x =>
        have hf := tok_fits hi
        rw [ht] at hf
        have g1 : x ≤ skipP bs x := skip_ge
        obtain ⟨hf1, hf2⟩ := hf
        rw [rd_tok hi ht] at h
        refine ih _ (by omega) _ _ l rfl (fun t ht => ?_) h
        rcases List.mem_append.1 ht with h1 | h1
        · exact ha t h1
        · simp at h1
          rw [h1]
          exact hi
    · rw [rd_end (by omega)] at h
      cases h
      exact ha
set_option maxRecDepth 100000 in
set_option maxHeartbeats 16000000 in
theorem joins_walk {a0 a1 a2 : Option Addr} {c0 c1 c2 : Nat} {b0 b1 b2 : List Int} (hb0 : BytesAt w a0 b0) (hi0 : TextIn a0 b0 c0) (hb1 : BytesAt w a1 b1) (hi1 : TextIn a1 b1 c1) (hb2 : BytesAt w a2 b2) (hi2 : TextIn a2 b2 c2) :
    Calls Try.prog 5 #[.slice a0 b0.length c0, .slice a1 b1.length c1, .slice a2 b2.length c2] w (Yes w) := by
  have HSP := Lib.hid (speaks_any w)
  have HT0 := Lib.hid hb0
  have HT1 := Lib.hid hb1
  have HT2 := Lib.hid hb2
  have HI0 := Lib.hid hi0
  have HI1 := Lib.hid hi1
  have HI2 := Lib.hid hi2
  obtain ⟨A, hA⟩ : ∃ A, b0.length = A := ⟨_, rfl⟩
  obtain ⟨B, hB⟩ : ∃ B, b1.length = B := ⟨_, rfl⟩
  obtain ⟨C, hC⟩ : ∃ C, b2.length = C := ⟨_, rfl⟩
  have HA := Lib.hid hA
  have HB := Lib.hid hB
  have HC := Lib.hid hC
  rw [hA, hB, hC]
  clear hb0 hb1 hb2 hi0 hi1 hi2 hA hB hC
  go_enter Try.func5, Try.ntmps5
  go_wp2_with fail
  refine HSP.out.mono ?_
  rintro e w1 ⟨rfl, hbl⟩
  have HB1 := Lib.hid hbl
  clear hbl
  by_cases hA2 : 2000 < A
  · have hg : (2000 : Int) < (A : Int) := by omega
    clear hA2
    go_wp2_with fail
    go_ret
    exact ⟨rfl, HB1.out⟩
  have hgA : ¬ (2000 : Int) < (A : Int) := by omega
  by_cases hB2 : 2000 < B
  · have hg : (2000 : Int) < (B : Int) := by omega
    clear hA2 hB2
    go_wp2_with fail
    go_ret
    exact ⟨rfl, HB1.out⟩
  have hgB : ¬ (2000 : Int) < (B : Int) := by omega
  by_cases hC2 : 200 < C
  · have hg : (200 : Int) < (C : Int) := by omega
    clear hA2 hB2 hC2
    go_wp2_with fail
    go_ret
    exact ⟨rfl, HB1.out⟩
  have hgC : ¬ (200 : Int) < (C : Int) := by omega
  have hr0 := Read_any (HT0.out.kept HB1.out) (HI0.out.ok (by have := HA.out; omega))
  rw [HA.out] at hr0
  have HR0 := Lib.hid hr0
  have HSMALL : Hid (A ≤ 2000 ∧ B ≤ 2000 ∧ C ≤ 200) := Lib.hid ⟨by omega, by omega, by omega⟩
  clear hA2 hB2 hC2 hr0
  go_wp2_with fail
  refine HR0.out.mono ?_
  rintro e w2 hr0
  unfold ReadIs at hr0
  obtain ⟨hb2, hr0⟩ := hr0
  have HB2 := Lib.hid (HB1.out.trans (hb2.mono HB1.out.size))
  clear hb2 HR0
  -- what the second read comes to, from any fault's variable on
  have HR1 := Lib.hid (fun (x y : Value) => Read_any (HT1.out.kept (HB2.out.alloc (o := .cells #[x, y] 27) HB2.out.size)) (HI1.out.ok (by have := HB.out; have := HSMALL.out; omega)))
  rw [HB.out] at HR1
  unfold ReadIs at HR1
  cases hrd0 : readP b0 with
  | error p =>
    rw [hrd0] at hr0
    subst hr0
    clear hrd0
    have HRX := Lib.hid (HR1.out (.int .i64 10) (.int .i64 (p : Int)))
    clear HR1
    go_wp2_with fail
    refine HRX.out.mono ?_
    rintro e w3 ⟨hb3, hr1⟩
    have hq := HB2.out.alloc (o := .cells #[.int .i64 10, .int .i64 (p : Int)] 27) HB2.out.size
    have hf := fault_keeps hb3
    have hc10 : w3.cell? ⟨w2.heap.size, 0, none⟩ = some (.int .i64 10) := hf 0 _ rfl
    have hlt3 : w2.heap.size < w3.heap.size := by have := hb3.size; simp at this; omega
    have HBF := Lib.hid (fun (x y : Value) => (hq.trans (hb3.mono hq.size)).alloc (o := .cells #[x, y] 27) (hq.trans (hb3.mono hq.size)).size)
    clear hq hf hb3
    cases hrd1 : readP b1 with
    | error q =>
      rw [hrd1] at hr1
      subst hr1
      go_wp2_with fail
      go_ret
      exact ⟨rfl, HBF.out _ _⟩
    | ok y =>
      rw [hrd1] at hr1
      obtain ⟨ay, cy, rfl, _⟩ := hr1
      go_wp2_with fail
      go_ret
      exact ⟨rfl, HBF.out _ _⟩
  | ok x =>
    rw [hrd0] at hr0
    have hcx := rd_count b0 _ (skipP b0 0) [] x rfl hrd0
    obtain ⟨X, hX⟩ : ∃ X, x.length = X := ⟨_, rfl⟩
    have HX := Lib.hid hX
    have HXS : Hid (X ≤ 2000) := Lib.hid (by have := HA.out; have := HSMALL.out; simp at hcx; omega)
    obtain ⟨ax, cx, hr0, htx, hlx, hmx, hnx, hsx⟩ := hr0
    rw [hX] at hr0
    subst hr0
    have HRX := Lib.hid (HR1.out (.int .i64 0) (.int .i64 0))
    have HTX := Lib.hid htx
    have HRD0 := Lib.hid hrd0
    clear HR1 hrd0 htx hlx hmx hnx hsx hcx hX
    go_wp2_with fail
    refine HRX.out.mono ?_
    rintro e w3 ⟨hb3, hr1⟩
    have hq := HB2.out.alloc (o := .cells #[.int .i64 0, .int .i64 0] 27) HB2.out.size
    have hf := fault_keeps hb3
    have hc0 : w3.cell? ⟨w2.heap.size, 0, none⟩ = some (.int .i64 0) := hf 0 _ rfl
    have hlt3 : w2.heap.size < w3.heap.size := by have := hb3.size; simp at this; omega
    have HB3 := Lib.hid (hq.trans (hb3.mono hq.size))
    have HTX3 := Lib.hid ((HTX.out.kept (w' := w2.alloc (.cells #[.int .i64 0, .int .i64 0] 27)) ((Below.refl _ _).alloc (Nat.le_refl _) _)).kept hb3)
    clear hq hf hb3 HRX HTX
    cases hrd1 : readP b1 with
    | error q =>
      rw [hrd1] at hr1
      subst hr1
      have HBF := Lib.hid (HB3.out.alloc (o := .cells #[.int .i64 10, .int .i64 (q : Int)] 27) HB3.out.size)
      clear hrd1
      go_wp2_with fail
      go_ret
      exact ⟨rfl, HBF.out⟩
    | ok y =>
      rw [hrd1] at hr1
      have hcy := rd_count b1 _ (skipP b1 0) [] y rfl hrd1
      obtain ⟨Y, hY⟩ : ∃ Y, y.length = Y := ⟨_, rfl⟩
      have HY := Lib.hid hY
      have HYS : Hid (Y ≤ 2000) := Lib.hid (by have := HB.out; have := HSMALL.out; simp at hcy; omega)
      obtain ⟨ay, cy, hr1, hty, hly, hmy, hny, hsy⟩ := hr1
      rw [hY] at hr1
      subst hr1
      have HRD1 := Lib.hid hrd1
      obtain ⟨W4, hW4⟩ : ∃ W4, W4 = w3.alloc (.cells #[.int .i64 0, .int .i64 0] 27) := ⟨_, rfl⟩
      have hal : Below w3.heap.size w3 W4 := by rw [hW4]; exact (Below.refl _ _).alloc (Nat.le_refl _) _
      have HB4 := Lib.hid (HB3.out.trans (hal.mono HB3.out.size))
      have HTX4 := Lib.hid (HTX3.out.kept hal)
      have HTY4 := Lib.hid (hty.kept hal)
      have HW4 := Lib.hid hW4
      have kc := fun (w : World) (C : Array Value) (n c : Nat) => Lib.run_convert_bytes_const (P := Try.prog) w 22 5 C n c Try.underlying22 Try.underlying5
      have hsz4 : W4.heap.size = w3.heap.size + 1 := by rw [hW4]; simp
      have kc4 := kc W4 #[.int .u8 10, .int .u8 59] 2 2
      rw [hsz4, hW4] at kc4
      have HSZ4 := Lib.hid hsz4
      clear hrd1 hty hly hmy hny hsy hal hW4 kc hsz4 hcy hY
      go_wp2_with fail
      have hmid0 : MidAt (W4.alloc (.cells #[.int .u8 10, .int .u8 59] 5 (2, 2 + 1))) W4.heap.size (.slice (some ⟨w3.heap.size + 1, 0, none⟩) 2 2) [10, 59] := by
        have := (text_new W4 [10, 59] (2, 2 + 1) (by decide) (by decide)).1
        exact .inl ⟨w3.heap.size + 1, rfl, rfl, by rw [← HSZ4.out]; exact this, by rw [HSZ4.out]; exact Nat.le_refl _⟩
      have hbl0 : Below W4.heap.size W4 (W4.alloc (.cells #[.int .u8 10, .int .u8 59] 5 (2, 2 + 1))) := (Below.refl _ _).alloc (Nat.le_refl _) _
      have HM0 := Lib.hid (And.intro hmid0 hbl0)
      have HT24 := Lib.hid (HT2.out.kept HB4.out)
      rw [HW4.out] at HM0
      clear hmid0 hbl0 kc4
      go_loopw [11, 56] (fun (v u : Value) (wr : World) => ∃ k : Nat, k ≤ C ∧ u = .int .i64 (k : Int) ∧ Hid (MidAt wr W4.heap.size v ([10, 59] ++ (b2.take k).filter (fun x => x != 10)) ∧ Below W4.heap.size W4 wr)) (fun _ u _ => C - (intOf u).toNat)
      case atStart => exact ⟨0, Nat.zero_le _, rfl, Lib.hid ⟨by rw [HW4.out]; simpa using HM0.out.1, by rw [HW4.out]; exact HM0.out.2⟩⟩
      case round =>
        obtain ⟨k, hk, rfl, HK⟩ := hrel
        clear HM0
        by_cases hkC : k < C
        · have hkb : k < b2.length := by rw [HC.out]; exact hkC
          obtain ⟨g2, o2, rfl, hc2⟩ := (HT24.out.kept HK.out.2).at hkb
          have hnx : (b2.take (k + 1)).filter (fun x => x != 10) = (b2.take k).filter (fun x => x != 10) ++ ([b2.getD k 0].filter (fun x => x != 10)) := by
            rw [List.take_succ_eq_append_getElem hkb, List.filter_append]
            simp [hkb]
          have hlen : ((b2.take k).filter (fun x => x != 10)).length ≤ k := Nat.le_trans (List.length_filter_le _ _) (by simp; omega)
          generalize b2.getD k 0 = z at *
          have hkL : (k : Int) < (C : Int) := by omega
          have hC200 : C ≤ 200 := HSMALL.out.2.2
          by_cases hz : z = 10
          · subst hz
            rw [show ([(10 : Int)].filter (fun x => x != 10)) = [] from rfl, List.append_nil] at hnx
            have HNX := Lib.hid hnx
            clear hkb hnx hlen hk
            go_wp2_with fail
            go_roundw
            case rel => exact ⟨k + 1, by omega, by go_num, Lib.hid ⟨by rw [HNX.out]; exact HK.out.1, HK.out.2⟩⟩
            case measure => simp [intOf]; omega
          · have hzb : (z != 10) = true := by simpa using hz
            have e1 : ([z].filter (fun x => x != 10)) = [z] := by simp [hz]
            rw [e1] at hnx
            have hm5 : MidAt (wr.alloc (.cells #[.int .u8 z] 5)) W4.heap.size _ ([10, 59] ++ (b2.take k).filter (fun x => x != 10)) := HK.out.1.chg (S := fun _ => False) (chg_alloc _ _) (fun _ _ _ h => h)
            have hb5 : BytesAt (wr.alloc (.cells #[.int .u8 z] 5)) (some ⟨wr.heap.size, 0, none⟩) [z] := .inr ⟨_, _, rfl, rangeAt_new wr [.int .u8 z] _⟩
            have hl5 : ([10, 59] ++ (b2.take k).filter (fun x => x != 10)).length + 1 ≤ 1000000 := by simp; omega
            have hbw := HK.out.2.alloc (o := .cells #[.int .u8 z] 5) HK.out.2.size
            have H5 := Lib.hid (And.intro hm5 (And.intro hb5 (And.intro hl5 hbw.size)))
            have HBW := Lib.hid hbw
            have HNX : Hid (([10, 59] ++ (b2.take k).filter (fun x => x != 10)) ++ [z] = [10, 59] ++ (b2.take (k + 1)).filter (fun x => x != 10)) := Lib.hid (by rw [hnx]; simp)
            clear hkb hnx hlen hk hz e1 hm5 hb5 hl5 hbw
            go_wp2_with (refine wpList_mid1 rfl (.tmp 62) (.tmp 64) rfl W4.heap.size _ _ rfl H5.out.1 ⟨wr.heap.size, 0, none⟩ 1 z rfl H5.out.2.1 H5.out.2.2.1 H5.out.2.2.2 ?_; intro v6 w6 hv6 hg6; have H6 := Lib.hid (And.intro hv6 (HBW.out.trans (hg6.below (fun k hk => hk) HBW.out.size))); clear hv6 hg6)
            go_roundw
            case rel => exact ⟨k + 1, by omega, by go_num, Lib.hid ⟨.inr (by rw [← HNX.out]; exact H6.out.1), H6.out.2⟩⟩
            case measure => simp [intOf]; omega
        · obtain rfl : k = C := by omega
          have htk : b2.take k = b2 := by rw [← HC.out]; exact List.take_length
          rw [htk] at HK
          obtain ⟨D, hD⟩ : ∃ D, b2.filter (fun x => x != 10) = D := ⟨_, rfl⟩
          have hDn : ∀ x ∈ D, x ≠ 10 := by
            rw [← hD]
            intro x hx
            simpa using (List.mem_filter.1 hx).2
          have hDb : ∀ x ∈ D, 0 ≤ x ∧ x < 256 := by
            rw [← hD]
            intro x hx
            exact HI2.out.byte x (List.mem_filter.1 hx).1
          have hDl : D.length ≤ 200 := by
            rw [← hD]
            have := List.length_filter_le (fun x => x != 10) b2
            have := HC.out
            have := HSMALL.out
            omega
          rw [hD] at HK
          have HD := Lib.hid (And.intro hDn (And.intro hDb hDl))
          clear hk hkC htk hD hDn hDb hDl
          obtain ⟨mv, hmv⟩ : ∃ mv, mv = [10, 59] ++ D := ⟨_, rfl⟩
          have hmt := HK.out.1
          rw [← hmv] at hmt
          have hbw := HK.out.2
          have hm5 : MidAt (wr.alloc (.cells #[.int .u8 10] 5)) W4.heap.size _ mv := hmt.chg (S := fun _ => False) (chg_alloc _ _) (fun _ _ _ h => h)
          have hb5 : BytesAt (wr.alloc (.cells #[.int .u8 10] 5)) (some ⟨wr.heap.size, 0, none⟩) [10] := .inr ⟨_, _, rfl, rangeAt_new wr [.int .u8 10] _⟩
          have hl5 : mv.length + 1 ≤ 1000000 := by rw [hmv]; have := HD.out.2.2; simp; omega
          have hbw5 := hbw.alloc (o := .cells #[.int .u8 10] 5) hbw.size
          have H5 := Lib.hid (And.intro hm5 (And.intro hb5 (And.intro hl5 hbw5.size)))
          obtain ⟨M, hM⟩ : ∃ M, (midL D).length = M := ⟨_, rfl⟩
          have hmm : mv ++ [10] = midL D := by rw [hmv]; rfl
          have hMs : M ≤ 203 := by rw [← hM]; have := HD.out.2.2; simp [midL]; omega
          have HM := Lib.hid (And.intro hM (And.intro hmm hMs))
          have HP6 := Lib.hid (fun v6 w6 (hv6 : Row8 w6 W4.heap.size v6 (mv ++ [10])) (hg6 : Chg (fun j => W4.heap.size ≤ j) (wr.alloc (.cells #[.int .u8 10] 5)) w6) =>
            join6 (v6 := v6) (w6 := w6) HB4.out (hbw5.trans (hg6.below (fun k hk => hk) hbw5.size)) (by rw [← HM.out.2.1]; exact hv6) HT0.out HT1.out HTX4.out HTY4.out (by rw [HM.out.1]; exact hMs))
          have HLN : Hid (([] : List Int).length + b0.length ≤ 1000000 ∧ (([] : List Int) ++ b0).length + (midL D).length ≤ 1000000 ∧ ((([] : List Int) ++ b0) ++ midL D).length + b1.length ≤ 1000000) := Lib.hid (by
            have := HA.out
            have := HB.out
            have := HSMALL.out
            refine ⟨?_, ?_, ?_⟩ <;> simp <;> omega)
          clear hmt hm5 hb5 hl5 hbw hbw5 hmm hMs hmv hM
          go_wp2_with (first | (refine wpList_mid1 rfl (.tmp 67) (.tmp 68) rfl W4.heap.size _ _ rfl H5.out.1 ⟨wr.heap.size, 0, none⟩ 1 10 rfl H5.out.2.1 H5.out.2.2.1 H5.out.2.2.2 ?_; intro v6 w6 hv6 hg6; obtain ⟨a6, c6, x6, rfl, _, hj6⟩ := HP6.out v6 w6 hv6 hg6; rw [HM.out.1]; have H6 := Lib.hid hj6; clear hj6 hv6 hg6) | (refine wpList_app8t rfl (.tmp 70) (.tmp 71) rfl w6.heap.size _ [] rfl H6.out.lit a0 A c0 b0 rfl HA.out (H6.out.text0.kept H6.out.al) HI0.out.src HLN.out.1 H6.out.al.size ?_; intro v7 w7 hv7 hg7; have H7 := Lib.hid (And.intro hv7 (H6.out.al.trans ((H6.out.lit.grown_chg hg7).below (fun k hk => hk) H6.out.al.size))); clear hv7 hg7) | (refine wpList_app8t rfl (.tmp 72) (.tmp 73) rfl w6.heap.size _ _ rfl H7.out.1 (some x6) M c6 (midL D) rfl HM.out.1 (H6.out.mid.kept H7.out.2) (.inr ⟨_, rfl⟩) HLN.out.2.1 H7.out.2.size ?_; intro v8 w8 hv8 hg8; have H8 := Lib.hid (And.intro hv8 (H7.out.2.trans ((H7.out.1.grown_chg hg8).below (fun k hk => hk) H7.out.2.size))); clear hv8 hg8) | (refine wpList_app8t rfl (.tmp 74) (.tmp 75) rfl w6.heap.size _ _ rfl H8.out.1 a1 B c1 b1 rfl HB.out (H6.out.text1.kept H8.out.2) HI1.out.src HLN.out.2.2 H8.out.2.size ?_; intro v9 w9 hv9 hg9; have H9 := Lib.hid (And.intro hv9 (H8.out.2.trans ((H8.out.1.grown_chg hg9).below (fun k hk => hk) H8.out.2.size))); clear hv9 hg9))
          have hrow9 := H9.out.1
          have hlist : (([] ++ b0) ++ midL D) ++ b1 = b0 ++ (midL D ++ b1) := by simp
          rw [hlist] at hrow9
          obtain ⟨a9, c9, rfl, hbt, hok⟩ := hrow9.toText (by
            have := HA.out
            have := HB.out
            have := HSMALL.out
            have := HM.out
            simp
            omega) (by
            intro z hz
            rcases List.mem_append.1 hz with h1 | h1
            · exact HI0.out.byte z h1
            · rcases List.mem_append.1 h1 with h2 | h2
              · simp [midL] at h2
                rcases h2 with rfl | rfl | h3 | rfl
                · omega
                · omega
                · exact HD.out.2.1 z h3
                · omega
              · exact HI1.out.byte z h2)
          have hrd := Read_any hbt hok
          have HRZ := Lib.hid hrd
          clear hrow9 hlist hbt hok hrd
          refine HRZ.out.mono ?_
          rintro e w10 hr
          unfold ReadIs at hr
          rw [read_joined HD.out.1 HRD0.out HRD1.out] at hr
          obtain ⟨zs, hzs⟩ : ∃ zs, zs = x ++ y.map (Tok.shift (b0.length + (midL D).length)) := ⟨_, rfl⟩
          rw [← hzs] at hr
          obtain ⟨Z, hZ⟩ : ∃ Z, zs.length = Z := ⟨_, rfl⟩
          obtain ⟨hb10, az, cz, hr, htz, hlz, _, _, _⟩ := hr
          rw [hZ] at hr hlz
          subst hr
          have hZXY : Z = X + Y := by rw [← hZ, hzs, List.length_append, List.length_map, HX.out, HY.out]
          obtain ⟨W11, hW11⟩ : ∃ W11, W11 = w10.alloc (.cells #[.int .i64 0, .int .i64 0] 27) := ⟨_, rfl⟩
          have hal : Below w10.heap.size w10 W11 := by rw [hW11]; exact (Below.refl _ _).alloc (Nat.le_refl _) _
          have h6b : Below w6.heap.size w6 W11 := (H9.out.2.trans (hb10.mono H9.out.2.size)).trans (hal.mono (H9.out.2.trans (hb10.mono H9.out.2.size)).size)
          have HBW := Lib.hid (H6.out.below.trans (h6b.mono H6.out.below.size))
          have HXW := Lib.hid (H6.out.toks0.kept h6b)
          have HYW := Lib.hid (H6.out.toks1.kept h6b)
          have HZW := Lib.hid (htz.kept hal)
          have htake : zs.take X = x := by rw [hzs, ← HX.out]; exact List.take_left
          have hdrop : zs.drop X = y.map (Tok.shift (b0.length + (midL D).length)) := by rw [hzs, ← HX.out]; exact List.drop_left
          have hsm := Same_any (c1 := cz) (c2 := cx) (toks_take HZW.out X) HXW.out (by rw [htake, HX.out]; have := HXS.out; omega)
          rw [htake, sameB_refl, HX.out] at hsm
          have HSAME := Lib.hid hsm
          have HDROP := Lib.hid hdrop
          have HZS := Lib.hid (And.intro hZ (And.intro hZXY hlz))
          have HXC : Hid (X ≤ cz) := Lib.hid (by omega)
          have HXZ : Hid (X ≤ Z) := Lib.hid (by omega)
          have HYZ : Hid (Y = Z - X) := Lib.hid (by omega)
          have hneq : ((Z : Int) != (X : Int) + (Y : Int)) = false := by simp; omega
          have hX2 : X ≤ 2000 := HXS.out
          have hY2 : Y ≤ 2000 := HYS.out
          have HW11 := Lib.hid hW11
          clear hzs hZ htz hlz hb10 hZXY hal h6b htake hdrop hsm hW11
          rw [HW11.out] at HSAME
          go_wp2_with (first | (refine wpList_val (.slice az X cz) (run_head_op (.tmp 96) (.tmp 98) (by with_reducible rfl) az Z cz X (by rfl) (by rfl) HXC.out) (by rfl) ?_))
          refine HSAME.out.mono ?_
          rintro e w12 ⟨rfl, n12, rfl⟩
          have hb12 : Below W11.heap.size W11 ((w10.alloc (.cells #[.int .i64 0, .int .i64 0] 27)).drewN n12) := by rw [← HW11.out]; exact below_drewN W11 n12
          have HB12 := Lib.hid hb12
          clear hb12 hneq
          go_wp2_with (first | (refine wpList_val (.slice (cutT az X cz) Y (cz - X)) (by rw [HYZ.out]; exact run_tail_op (.tmp 104) (.tmp 106) rfl az Z cz X rfl rfl HXZ.out) (by rfl) ?_))
          have HPOS := Lib.hid (fun t ht => rd_pos b1 _ (skipP b1 0) [] y rfl (fun t h => by cases h) HRD1.out t ht)
          have HTZ := Lib.hid (toks_drop (n := X) HZW.out (by rw [HZS.out.1]; exact HZS.out.2.2))
          rw [HDROP.out] at HTZ
          go_loopw [109] (fun (v : Value) (wr : World) => ∃ k : Nat, k ≤ Y ∧ v = .int .i64 (k : Int) ∧ Hid (Below W11.heap.size W11 wr)) (fun v _ => Y - (intOf v).toNat)
          case atStart => exact ⟨0, Nat.zero_le _, rfl, HB12⟩
          case round =>
            obtain ⟨k, hk, rfl, HK2⟩ := hrel
            by_cases hkY : k < Y
            · have hky : k < y.length := by rw [HY.out]; exact hkY
              obtain ⟨gy, oy, rfl, hyc⟩ := (HYW.out.kept HK2.out).at hky
              obtain ⟨gz, oz, hca, hzc⟩ := (HTZ.out.kept HK2.out).at (k := k) (by simpa using hky)
              have hgd : (y.map (Tok.shift (b0.length + (midL D).length))).getD k default = Tok.shift (b0.length + (midL D).length) (y.getD k default) := by simp [hky]
              have hpos := HPOS.out (y.getD k default) (by simp [hky])
              rw [hgd] at hzc
              generalize y.getD k default = T at *
              obtain ⟨Q, hQ⟩ : ∃ Q : Int, Q = ((b0.length + (midL D).length + T.pos : Nat) : Int) := ⟨_, rfl⟩
              have hzc' : wr.rangeAt gz (oz + k * 3) [.int .i64 T.kind, .string (txt T.text), .int .i64 Q] := by rw [hQ]; exact hzc
              have hsub : Q - ((A : Int) + (M : Int)) = (T.pos : Int) := by rw [hQ, HA.out, HM.out.1]; omega
              have hps : T.pos ≤ 2000 := by have := HB.out; have := HSMALL.out; omega
              have hMs : M ≤ 203 := HM.out.2.2
              have hAs : A ≤ 2000 := HSMALL.out.1
              have hkl : (k : Int) < (Y : Int) := by omega
              have HZC := Lib.hid hzc'
              have HYC := Lib.hid hyc
              have HOWN := Lib.hid (And.intro (rangeAt_new wr [.int .i64 T.kind, .string (txt T.text), .int .i64 (T.pos : Int)] 38) (show (wr.alloc (.cells #[.int .i64 T.kind, .string (txt T.text), .int .i64 (T.pos : Int)] 38)).rangeAt gy (oy + k * 3) (tcell T) from World.rangeAt_alloc hyc _))
              have HTE := Lib.hid (tokEq_refl T)
              have HBN := Lib.hid ((HK2.out.alloc (o := .cells #[.int .i64 T.kind, .string (txt T.text), .int .i64 (T.pos : Int)] 38) HK2.out.size).drew)
              rw [hca]
              clear hky hzc hzc' hyc hgd hQ hpos hca
              go_wp2_with (first | (refine wpList_val (.agg #[.int .i64 T.kind, .string (txt T.text), .int .i64 Q]) (run_load_op 38 (.tmp 112) (by with_reducible rfl) gz (oz + k * 3) (by rfl) [.int .i64 T.kind, .string (txt T.text), .int .i64 Q] _ HZC.out Try.underlying38 rfl (by rw [size_token]; rfl)) (by rfl) ?_))
              refine wp_region_held_drew (S := (fun w' => w'.rangeAt wr.heap.size 0 (tcell T) ∧ w'.rangeAt gy (oy + k * 3) (tcell T))) (by kernel_rfl) ?_ (fun hHeld => ?_)
              · exact HOWN.out
              refine wpAnyH_take (i := 0) (v := .agg (tcell T).toArray) (by rfl) (by kernel_rfl) (by kernel_rfl) (by kernel_rfl) (by exact fun _ _ _ h => h) (Or.inl ⟨by rfl, ?_⟩) hHeld ?_
              · intro w' hSw
                exact run_load_op 38 (.tmp 18) rfl wr.heap.size 0 rfl (tcell T) _ hSw.1 Try.underlying38 rfl (tsize T)
              try simp only [Act.put, List.setIfInBounds_toArray, List.set_cons_zero, List.set_cons_succ, List.getElem_toArray, List.getElem_cons_zero, List.getElem_cons_succ]
              refine wpAnyH_take (i := 1) (v := ?_) (by rfl) (by kernel_rfl) (by kernel_rfl) (by kernel_rfl) (by exact fun _ _ _ h => h) (Or.inl ⟨by rfl, ?_⟩) hHeld ?_
              rotate_left 1
              · intro w' hSw
                (try dsimp only at hSw)
                go_simp
                try with_reducible rfl
              try simp only [Act.put, List.setIfInBounds_toArray, List.set_cons_zero, List.set_cons_succ, List.getElem_toArray, List.getElem_cons_zero, List.getElem_cons_succ]
              refine wpAnyH_take (i := 2) (v := ?_) (by rfl) (by kernel_rfl) (by kernel_rfl) (by kernel_rfl) (by exact fun _ _ _ h => h) (Or.inl ⟨by rfl, ?_⟩) hHeld ?_
              rotate_left 1
              · intro w' hSw
                (try dsimp only at hSw)
                go_simp
                try with_reducible rfl
              try simp only [Act.put, List.setIfInBounds_toArray, List.set_cons_zero, List.set_cons_succ, List.getElem_toArray, List.getElem_cons_zero, List.getElem_cons_succ]
              refine wpAnyH_take (i := 3) (v := ?_) (by rfl) (by kernel_rfl) (by kernel_rfl) (by kernel_rfl) (by exact fun _ _ _ h => h) (Or.inl ⟨by rfl, ?_⟩) hHeld ?_
              rotate_left 1
              · intro w' hSw
                (try dsimp only at hSw)
                go_simp
                try with_reducible rfl
              try simp only [Act.put, List.setIfInBounds_toArray, List.set_cons_zero, List.set_cons_succ, List.getElem_toArray, List.getElem_cons_zero, List.getElem_cons_succ]
              refine wpAnyH_take (i := 4) (v := .agg (tcell T).toArray) (by rfl) (by kernel_rfl) (by kernel_rfl) (by kernel_rfl) (by exact fun _ _ _ h => h) (Or.inl ⟨by rfl, ?_⟩) hHeld ?_
              · intro w' hSw
                exact run_load_op 38 (.tmp 126) rfl gy (oy + k * 3) rfl (tcell T) _ hSw.2 Try.underlying38 rfl (tsize T)
              try simp only [Act.put, List.setIfInBounds_toArray, List.set_cons_zero, List.set_cons_succ, List.getElem_toArray, List.getElem_cons_zero, List.getElem_cons_succ]
              refine wpAnyH_take (i := 5) (v := .bool (!true)) (by rfl) (by kernel_rfl) (by kernel_rfl) (by kernel_rfl) (by exact fun _ _ _ h => h) (Or.inl ⟨by rfl, ?_⟩) hHeld ?_
              · intro w' hSw
                exact (run_neqT_op _ (.tmp 123) (.tmp 127) rfl T T rfl rfl).trans (by rw [HTE.out])
              try simp only [Act.put, List.setIfInBounds_toArray, List.set_cons_zero, List.set_cons_succ, List.getElem_toArray, List.getElem_cons_zero, List.getElem_cons_succ]
              refine wpAnyH_done (by kernel_rfl) ?_ _
              clear hHeld
              go_wp2_with fail
              go_roundw
              case rel => exact ⟨k + 1, by omega, by go_num, HBN⟩
              case measure => simp [intOf]; omega
            · obtain rfl : k = Y := by omega
              have HEND := Lib.hid (HBW.out.trans (HK2.out.mono HBW.out.size))
              clear hk hkY
              go_wp2_with fail
              go_ret
              exact ⟨rfl, HEND.out⟩
end
end Go.Proofs.Ytfmidhjenapaeaa
