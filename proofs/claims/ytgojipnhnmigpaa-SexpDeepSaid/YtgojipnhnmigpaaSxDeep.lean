/-
  SexpDeep: the law's walk.
-/
import Derived.Test.YtgojipnhnmigpaaSxSpk
import Derived.Laws.BitsLemmas
set_option linter.unusedVariables false
set_option linter.unusedSimpArgs false
namespace Go.Proofs.Ytgojipnhnmigpaa
open Go.RowKit Sx

theorem i64_and63 (n : Int) : bits .and .i64 n 63 = n % 64 := by
  have h63 : (BitVec.ofInt 64 63).toNat = 2 ^ 6 - 1 := by decide
  have key : (BitVec.ofInt 64 n &&& BitVec.ofInt 64 63).toNat = (n % ((2 ^ 64 : Nat) : Int)).toNat % 2 ^ 6 := by
    rw [BitVec.toNat_and, BitVec.toNat_ofInt, h63, Nat.and_two_pow_sub_one_eq_mod]
  show IntKind.i64.wrap ((BitVec.ofInt 64 n &&& BitVec.ofInt 64 63).toNat : Nat) = n % 64
  rw [key, IntKind.wrap_i64]
  omega
/-- A row of tokens of one's own. -/
def RowK (w : World) (B : Nat) (v : Value) (l : List Tk) : Prop := w.ownsRow B 35 3 v l.length (kcells l)
section
variable {w w' : World} {B : Nat} {v : Value} {l : List Tk}
theorem RowK.turn {S : Nat → Prop} (h : RowK w B v l) (hc : Chg S w w') (hS : ∀ k, v.ownBlock = some k → ¬ S k) : RowK w' B v l := ownsRow_turn h hc hS
theorem RowK.kept (h : RowK w B v l) (hb : Below w.heap.size w w') : RowK w' B v l := h.turn (.of_below (S := fun _ => False) hb) (fun _ _ h => h)
theorem RowK.toks (h : RowK w B v l) : ∃ a c, v = .slice a l.length c ∧ TksIn w a l c := by
  obtain ⟨h1, ⟨rfl, h2⟩ | ⟨g, cap, cur, rfl, hbg, hg, hc, hm, hcs, ht⟩⟩ := h
  · exact ⟨none, 0, by rw [h2], ⟨.inl (List.eq_nil_of_length_eq_zero h2), by omega, by omega, .inl ⟨rfl, rfl⟩⟩⟩
  · refine ⟨_, _, rfl, ⟨.inr ⟨g, 0, rfl, fun j u hu => ?_⟩, hc, by unfold maxLen at hm; omega, .inr ⟨_, rfl⟩⟩⟩
    rw [← ht, List.getElem?_take] at hu
    split at hu
    · rw [Nat.zero_add]
      simp only [World.cell?, hg]
      simpa using hu
    · cases hu
/-- Tokens more. -/
theorem wpList_app_toks {ops : Array Oper} {rest : List Oper} {o : Oper} {aa : Act} {Q : Exit → Act → World → Prop} (hgd : o.guard = none) (s x : Operand)
    (ho : o.op = .call { callee := .builtin .append, args := #[s, x], argTypes := #[22, 22] }) (B : Nat) (v : Value) (l : List Tk) (hv : aa.eval s = v) (h : RowK w B v l)
    (ad : Addr) (m c : Nat) (news : List Tk) (hx : aa.eval x = .slice (some ad) m c) (hm : news.length = m) (hn : ∀ j u, (kcells news)[j]? = some u → w.cell? (ad.add j) = some u) (hl : l.length + m ≤ 1000000) (hB : B ≤ w.heap.size)
    (hk : ∀ v' w', RowK w' B v' (l ++ news) → w.grownBy w' v.ownBlock → wpList Try.prog ops Q rest (aa.put o.dst v') w') : wpList Try.prog ops Q (o :: rest) aa w := by
  refine wpList_plain hgd fun _ hK => ?_
  obtain ⟨i, i1, i2, i3, i4⟩ := info_token'
  obtain ⟨v', w', q1, q2, q3, q4⟩ := run_append_mine (P := Try.prog) (w := w) (base := B) 22 o.type 35 i _ 3 32 Try.underlying22 i1 i2 i3 i4 rfl (by omega) v l.length (kcells l) h ad m c (kcells news) (by rw [kcells_len, hm]) hn (kcells_one news) (by unfold maxLen; omega) (by omega) hB
  unfold Oper.wp execOp
  simp only [ho, resolve, invoke, builtin, Sem.run_bind, Sem.run_pure, Result.andThen_ok, List.map_toArray, List.map_cons, List.map_nil, hv, hx, q1]
  exact hK _ _ (hk v' w' (by rw [RowK, List.length_append, kcells_app, hm]; exact q2) q3)
theorem RowK.new (w : World) : RowK (w.alloc (.cells #[] 35)) w.heap.size (.slice (some ⟨w.heap.size, 0, none⟩) 0 0) [] := World.ownsRow_lit w #[] 0 (Nat.le_refl _) (by unfold maxLen; omega) rfl
theorem tok_new (w : World) (t : Tk) : ∀ j u, (kcells [t])[j]? = some u → (w.alloc (.cells #[.int .i64 t.k, .string t.t, .int .i64 t.p] 35)).cell? ((⟨w.heap.size, 0, none⟩ : Addr).add j) = some u := fun j u hu => by
  rw [Addr.add_mid]
  exact rangeAt_new w [.int .i64 t.k, .string t.t, .int .i64 t.p] 35 j u hu
end
theorem build_token {o : Oper} {a : Act} {w : World} {x : Operand} {c p : Int} {s : ByteArray} (ho : o.op = .build 35 #[(0, .const (.int .i64 c)), (1, .const (.string s)), (2, x)]) (hx : a.eval x = .int .i64 p) :
    (execOp a.eval o).run Try.prog w = .ok (.value (.agg #[.int .i64 c, .string s, .int .i64 p])) w := by
  have hz := (zero_of_info zero_token).1 w
  have e1 : ∀ w, (sizeOf 3).run Try.prog w = .ok 1 w := fun w => size_of (by kernel_rfl) w
  have e2 : ∀ w, (sizeOf 9).run Try.prog w = .ok 1 w := fun w => size_of (by kernel_rfl) w
  have : (Instr.build 35 #[(0, .int .i64 c), (1, .string s), (2, .int .i64 p)]).run Try.prog w = .ok (.agg #[.int .i64 c, .string s, .int .i64 p]) w := by
    simp [Instr.build, hz, run_underlying Try.underlying35, e1, e2, Instr.fill, Value.cells]
  have h1 : a.eval (.const (.int .i64 c)) = .int .i64 c := rfl
  have h2 : a.eval (.const (.string s)) = .string s := rfl
  unfold execOp
  simp [ho, hx, h1, h2, this]
theorem len_one : ∀ {x : Fo}, x.len = 1 → ∃ l t k, x = .one l t k
  | .nil, h => by simp [Fo.len] at h
  | .cons l t k .nil, _ => ⟨l, t, k, rfl⟩
  | .cons l t k (.cons _ _ _ _), h => by simp [Fo.len] at h
/-- What the law's read comes to. -/
theorem deep_reads {k : Nat} (h1 : 1 ≤ k) : (1000 < k ∧ readS (up 0 k ++ down k k) = .error (18, 1000)) ∨ (k ≤ 1000 ∧ ∃ l t x, readS (up 0 k ++ down k k) = .ok (.one l t x) ∧ (Fo.one l t x).deep = k) := by
  by_cases hk : k ≤ 1000
  · obtain ⟨x, e1, e2, e3⟩ := read_nested (i := k) h1 hk
    obtain ⟨l, t, y, rfl⟩ := len_one e2
    exact .inr ⟨hk, l, t, y, e1, e3⟩
  · exact .inl ⟨by omega, Sx.read_deep (by omega)⟩
set_option maxRecDepth 100000 in
set_option maxHeartbeats 8000000 in
theorem deep_walk8 (w : World) (z : Int) : Calls Try.prog 4 #[.int .i64 z] w (Yes w) := by
  have HSP := Lib.hid (speaks08 w)
  obtain ⟨r, hr⟩ : ∃ r, bits .and .i64 z 63 = r := ⟨_, rfl⟩
  have hr1 : 0 ≤ r ∧ r < 64 := by rw [← hr, i64_and63]; omega
  obtain ⟨k, hk⟩ : ∃ k : Nat, r + 970 = (k : Int) := ⟨(r + 970).toNat, by omega⟩
  have hkw : wrap64 (r + 970) = (k : Int) := by rw [IntWalk.wrap64_in _ (by omega), hk]
  have HK : Hid (970 ≤ k ∧ k < 1034) := Lib.hid (by omega)
  clear hr1 hk
  go_enter Try.func4, Try.ntmps4
  go_wp2_with fail
  refine HSP.out.mono ?_
  rintro e w1 ⟨rfl, hb1⟩
  have HB1 := Lib.hid hb1
  have HNEW := Lib.hid (RowK.new w1)
  have HBN : Hid (Below w1.heap.size w1 (w1.alloc (.cells #[] 35))) := Lib.hid ((Below.refl _ _).alloc (Nat.le_refl _) _)
  clear hb1 HSP
  go_wp2_with fail
  try simp only [hkw]
  clear hkw
  go_loopw [4, 5] (fun (lv iv : Value) (wr : World) => ∃ (i : Nat), iv = .int .i64 (i : Int) ∧ i ≤ k ∧ Hid (RowK wr w1.heap.size lv (up 0 i) ∧ Below w1.heap.size w1 wr)) (fun _ iv _ => k - (intOf iv).toNat)
  case atStart => exact ⟨0, rfl, Nat.zero_le _, Lib.hid ⟨HNEW.out, HBN.out⟩⟩
  case round =>
    obtain ⟨i, rfl, hi, HR⟩ := hrel
    by_cases hik : i < k
    · have hik' : (i : Int) < (k : Int) := by omega
      have hiw : wrap64 ((i : Int) + 1) = (i : Int) + 1 := IntWalk.wrap64_in _ (by have := HK.out; omega)
      obtain ⟨W2, hW2⟩ : ∃ W2, W2 = wr.alloc (.cells #[.int .i64 1, .string { data := #[40] }, .int .i64 (i : Int)] 35) := ⟨_, rfl⟩
      have b2 : Below wr.heap.size wr W2 := by rw [hW2]; exact box_below wr _ _
      have hn2 : ∀ j u, (kcells [⟨1, { data := #[40] }, (i : Int)⟩])[j]? = some u → W2.cell? ((⟨wr.heap.size, 0, none⟩ : Addr).add j) = some u := by rw [hW2]; exact tok_new wr ⟨1, { data := #[40] }, (i : Int)⟩
      have H2 := Lib.hid (And.intro (HR.out.1.kept b2) (And.intro hn2 (HR.out.2.trans (b2.mono HR.out.2.size))))
      have HLEN : Hid ((up 0 i).length + 1 ≤ 1000000 ∧ w1.heap.size ≤ W2.heap.size) := Lib.hid ⟨by rw [up_len]; have := HK.out; omega, Nat.le_trans HR.out.2.size b2.size⟩
      have HEQ : Hid (up 0 i ++ [⟨1, { data := #[40] }, (i : Int)⟩] = up 0 (i + 1)) := Lib.hid (by rw [up_snoc]; simp)
      have HW2 := Lib.hid hW2
      clear b2 hn2 hW2
      go_wp2_with (first | (refine wpList_val (.agg #[.int .i64 1, .string { data := #[40] }, .int .i64 (i : Int)]) (build_token (by with_reducible rfl) (by rfl)) (by rfl) ?_) | (rw [← HW2.out]; refine wpList_app_toks rfl (.tmp 20) (.tmp 23) rfl w1.heap.size u4 (up 0 i) rfl H2.out.1 ⟨wr.heap.size, 0, none⟩ 1 1 [⟨1, { data := #[40] }, (i : Int)⟩] rfl rfl H2.out.2.1 HLEN.out.1 HLEN.out.2 ?_; intro v' w5 hrow hgrw; rw [HEQ.out] at hrow; have H5 := Lib.hid (And.intro hrow (H2.out.2.2.trans ((Chg.of_grown (S := fun k => w1.heap.size ≤ k) hgrw (fun k hk => (World.ownsRow.lt H2.out.1 k hk).1)).below (fun _ h => h) HLEN.out.2))); clear hrow hgrw))
      go_roundw
      case rel => exact ⟨i + 1, by first | go_num | exact congrArg (Value.int .i64) (hiw.trans (by omega)), by omega, H5⟩
      case measure => exact meas_wrap (by first | exact hiw | rfl) (by omega) hik
    · obtain rfl : i = k := by omega
      clear HNEW HBN
      go_wp2_with fail
      go_loopw [4, 6] (fun (lv iv : Value) (wr : World) => ∃ (j : Nat), iv = .int .i64 (j : Int) ∧ j ≤ i ∧ Hid (RowK wr w1.heap.size lv (up 0 i ++ down i j) ∧ Below w1.heap.size w1 wr)) (fun _ iv _ => i - (intOf iv).toNat)
      case atStart => exact ⟨0, rfl, Nat.zero_le _, Lib.hid ⟨by rw [show down i 0 = [] from rfl, List.append_nil]; exact HR.out.1, HR.out.2⟩⟩
      case round =>
        obtain ⟨j, rfl, hj, HS⟩ := hrel
        by_cases hjk : j < i
        · have hjk' : (j : Int) < (i : Int) := by omega
          have hjw : wrap64 ((j : Int) + 1) = (j : Int) + 1 := IntWalk.wrap64_in _ (by have := HK.out; omega)
          have hsw : wrap64 ((i : Int) + (j : Int)) = (i : Int) + (j : Int) := IntWalk.wrap64_in _ (by have := HK.out; omega)
          obtain ⟨W2, hW2⟩ : ∃ W2, W2 = wr.alloc (.cells #[.int .i64 2, .string { data := #[41] }, .int .i64 ((i : Int) + (j : Int))] 35) := ⟨_, rfl⟩
          have b2 : Below wr.heap.size wr W2 := by rw [hW2]; exact box_below wr _ _
          have hn2 : ∀ q u, (kcells [⟨2, { data := #[41] }, (i : Int) + (j : Int)⟩])[q]? = some u → W2.cell? ((⟨wr.heap.size, 0, none⟩ : Addr).add q) = some u := by rw [hW2]; exact tok_new wr ⟨2, { data := #[41] }, (i : Int) + (j : Int)⟩
          have H2 := Lib.hid (And.intro (HS.out.1.kept b2) (And.intro hn2 (HS.out.2.trans (b2.mono HS.out.2.size))))
          have HLEN : Hid ((up 0 i ++ down i j).length + 1 ≤ 1000000 ∧ w1.heap.size ≤ W2.heap.size) := Lib.hid ⟨by rw [List.length_append, up_len, down_len]; have := HK.out; omega, Nat.le_trans HS.out.2.size b2.size⟩
          have HEQ : Hid (up 0 i ++ down i j ++ [⟨2, { data := #[41] }, (i : Int) + (j : Int)⟩] = up 0 i ++ down i (j + 1)) := Lib.hid (by rw [down_snoc, List.append_assoc]; simp)
          have HW2 := Lib.hid hW2
          clear b2 hn2 hW2
          go_wp2_with (first | (refine wpList_val (.agg #[.int .i64 2, .string { data := #[41] }, .int .i64 ((i : Int) + (j : Int))]) (build_token (by with_reducible rfl) (by rfl)) (by rfl) ?_) | (rw [← HW2.out]; refine wpList_app_toks rfl (.tmp 30) (.tmp 35) rfl w1.heap.size u4 (up 0 i ++ down i j) rfl H2.out.1 ⟨wr.heap.size, 0, none⟩ 1 1 [⟨2, { data := #[41] }, (i : Int) + (j : Int)⟩] rfl rfl H2.out.2.1 HLEN.out.1 HLEN.out.2 ?_; intro v' w5 hrow hgrw; rw [HEQ.out] at hrow; have H5 := Lib.hid (And.intro hrow (H2.out.2.2.trans ((Chg.of_grown (S := fun k => w1.heap.size ≤ k) hgrw (fun k hk => (World.ownsRow.lt H2.out.1 k hk).1)).below (fun _ h => h) HLEN.out.2))); clear hrow hgrw))
          go_roundw
          case rel => exact ⟨j + 1, by first | go_num | exact congrArg (Value.int .i64) (hjw.trans (by omega)), by omega, H5⟩
          case measure => exact meas_wrap (by first | exact hjw | rfl) (by omega) hjk
        · obtain rfl : j = i := by omega
          obtain ⟨a2, c2, hv2, hin⟩ := HS.out.1.toks
          have hlen : (up 0 j ++ down j j).length = j + j := by rw [List.length_append, up_len, down_len]
          have HSR := Lib.hid (SRead_any hin (by rw [hlen]; have := HK.out; omega))
          rw [hlen] at hv2 HSR
          subst hv2
          have HBR := Lib.hid (HB1.out.trans (HS.out.2.mono HB1.out.size))
          have HDR := Lib.hid (deep_reads (k := j) (by have := HK.out; omega))
          clear hin hlen
          go_wp2_with fail
          refine HSR.out.mono ?_
          rintro e w2 ⟨hb2, h2⟩
          have hb20 := HBR.out.trans (hb2.mono HBR.out.size)
          rcases HDR.out with ⟨hk1, hrd⟩ | ⟨hk1, l, ⟨K, T, P⟩, x, hrd, hdp⟩
          · rw [hrd] at h2
            obtain ⟨_, rfl⟩ := h2
            have hk2 : (1000 : Int) < (j : Int) := by omega
            have HF := Lib.hid (rangeAt_new w2 [.int .i64 18, .int .i64 1000] 27)
            have HE := Lib.hid (hb20.trans ((box_below w2 #[.int .i64 18, .int .i64 1000] 27).mono hb20.size))
            clear hrd hb2 hb20
            dsimp only
            go_wp2_with (first | (refine wpList_val (.agg #[.int .i64 18, .int .i64 1000]) (run_load_op 27 (.tmp 8) (by with_reducible rfl) w2.heap.size 0 (by rfl) [.int .i64 18, .int .i64 1000] _ HF.out Try.underlying27 rfl (by rw [size_fault]; rfl)) (by rfl) ?_))
            go_ret
            exact ⟨rfl, HE.out⟩
          · rw [hrd] at h2
            obtain ⟨v, rfl, hv⟩ := h2
            have hk2 : ¬ (1000 : Int) < (j : Int) := by omega
            obtain ⟨a3, c3, rfl, h31, h32, h33⟩ := hv.value
            have hl1 : (Fo.one l ⟨K, T, P⟩ x).len = 1 := rfl
            rw [hl1] at hv h31 ⊢
            obtain ⟨g, v3, rfl, _, hs3, hx3⟩ := hv.get (i := 0) (l := l) (t := ⟨K, T, P⟩) (k' := x) rfl
            have b3 : Below w2.heap.size w2 (w2.alloc (.cells #[.int .i64 0, .int .i64 0] 27)) := box_below w2 _ _
            have hx4 : (w2.alloc (.cells #[.int .i64 0, .int .i64 0] 27)).rangeAt g 0 [.bool l, .int .i64 K, .string T, .int .i64 P, v3] := fun q u hu => by
              have := hx3 q u hu
              rw [Nat.zero_mul] at this
              exact (b3.cell (p := ⟨g, 0 + q, none⟩) (World.block_lt_of_cell? _ _ this)).trans this
            have hdq := Deep_any (l := l) (K := K) (T := T) (P := P) ((hs3.kept b3).any) (by rw [hdp]; omega)
            rw [hdp] at hdq
            have HDP := Lib.hid hdq
            have HX4 := Lib.hid hx4
            have HF := Lib.hid (rangeAt_new w2 [.int .i64 0, .int .i64 0] 27)
            have HB3 := Lib.hid (hb20.trans (b3.mono hb20.size))
            clear hrd hb2 hb20 hv h31 h32 h33 hl1 hs3 hx3 b3 hx4 hdq hdp
            go_wp2_with (first | (refine wpList_val (.agg #[.int .i64 0, .int .i64 0]) (run_load_op 27 (.tmp 8) (by with_reducible rfl) w2.heap.size 0 (by rfl) [.int .i64 0, .int .i64 0] _ HF.out Try.underlying27 rfl (by rw [size_fault]; rfl)) (by rfl) ?_) | (refine wpList_val (.agg #[.bool l, .int .i64 K, .string T, .int .i64 P, v3]) (run_load_op 38 (.tmp 62) (by with_reducible rfl) g 0 (by rfl) [.bool l, .int .i64 K, .string T, .int .i64 P, v3] _ HX4.out Try.underlying38 rfl (by rw [size_sexp]; rfl)) (by rfl) ?_))
            refine HDP.out.mono ?_
            rintro e w5 ⟨rfl, hb5⟩
            have HB := Lib.hid (HB3.out.trans (hb5.mono HB3.out.size))
            clear hb5 HDP
            go_wp2_with fail
            go_ret
            exact ⟨rfl, HB.out⟩
end Go.Proofs.Ytgojipnhnmigpaa
