/-
  Layer 7, the document's answer: Read; and two rows of tokens held against one another.
-/
import Derived.Test.YtfmidhjenapaeaaLxRTok1
import Derived.Test.YtfmidhjenapaeaaLxRTok2
import Derived.Test.YtfmidhjenapaeaaLxRTok3
import Derived.Test.YtfmidhjenapaeaaLxRTok4
import Derived.Test.YtfmidhjenapaeaaLxRTok5
import Derived.Test.YtfmidhjenapaeaaLxRTok6
import Derived.Test.YtfmidhjenapaeaaLxRow
set_option linter.unusedVariables false
set_option linter.unusedSimpArgs false
namespace Go.Proofs.Ytfmidhjenapaeaa
open Go.RowKit Lx

section
variable {w W W' : World} {a : Option Addr} {c : Nat} {bs : List Int} {i : Nat} {v : Value} {acc : List Tok}
theorem Token_any (hb : BytesAt w a bs) (ok : TextOk a bs c) (hi : i < bs.length) : Calls Try.prog 15 #[.slice a bs.length c, .int .i64 (i : Int)] w (TokRes w i (tokP bs i)) := by
  have htok : tokP bs i = tokC bs i (bs.getD i 0) := rfl
  rw [htok]
  by_cases h40 : bs.getD i 0 = 40
  · rw [h40]
    exact ref_open hb ok hi h40
  by_cases h41 : bs.getD i 0 = 41
  · rw [h41]
    exact ref_close hb ok hi h41
  by_cases h124 : bs.getD i 0 = 124
  · rw [h124]
    exact ref_bar hb ok hi h124
  by_cases h34 : bs.getD i 0 = 34
  · rw [h34]
    exact ref_string hb ok hi h34
  by_cases h58 : bs.getD i 0 = 58
  · rw [h58]
    exact ref_colon hb ok hi h58
  unfold tokC
  rw [if_neg h40, if_neg h41, if_neg h124, if_neg h34, if_neg h58]
  by_cases hd : digitB (bs.getD i 0) = true
  · rw [if_pos hd]
    exact ref_number hb ok hi hd
  rw [if_neg hd]
  by_cases hn : innerB (bs.getD i 0) = true
  · rw [if_pos hn]
    exact ref_symbol hb ok hi h40 h41 h124 h34 h58 hn (by simpa using hd)
  · rw [if_neg hn]
    exact ref_none hb ok hi h40 h41 h124 h34 h58 (by simpa using hn) (by simpa using hd)
/-- What the document's read comes to. -/
def RefIs (bs : List Int) (w : World) (e : Ending) (w' : World) : Prop :=
  Below w.heap.size w w' ∧ match readP bs with
    | .error p => e = .returned (.tuple #[.slice none 0 0, .int .i64 (p : Int)])
    | .ok l => ∃ a c, e = .returned (.tuple #[.slice a l.length c, .int .i64 (-1)]) ∧ ToksAt w' a l ∧ l.length ≤ c ∧ c ≤ maxLen ∧ (a = none → c = 0) ∧ ∀ x, a = some x → w.heap.size ≤ x.block ∧ x.spot = none
/-- Within the call: the tokens so far, and the text. -/
structure RefSt (w : World) (a : Option Addr) (bs : List Int) (W : World) (v : Value) (i : Nat) (acc : List Tok) : Prop where
  row : RowT W w.heap.size v acc
  below : Below w.heap.size w W
  text : BytesAt W a bs
  old : ∀ g off, a = some ⟨g, off, none⟩ → bs ≠ [] → g < w.heap.size
  le : i ≤ bs.length
  few : acc.length ≤ i
  says : readP bs = rdP bs i acc
theorem RefSt.past (h : RefSt w a bs W v i acc) (hb : Below W.heap.size W W') : RefSt w a bs W' v i acc :=
  ⟨h.row.chg (S := fun _ => False) (.of_below hb) (fun _ _ _ h => h), h.below.trans (hb.mono h.below.size), h.text.kept hb, h.old, h.le, h.few, h.says⟩
theorem RefSt.more (h : RefSt w a bs W v i acc) {k : Int} {t : List Int} {e : Nat} (ht : tokP bs i = .tok k t e) (hi : i < bs.length) {v' : Value} (hv : RowT W' w.heap.size v' (acc ++ [⟨k, t, i⟩])) (hg : W.grownBy W' v.ownBlock) :
    RefSt w a bs W' v' (skipP bs e) (acc ++ [⟨k, t, i⟩]) := by
  have hc := h.row.grown_chg hg
  have hf := tok_fits hi
  rw [ht] at hf
  have h1 : e ≤ skipP bs e := skip_ge
  have h2 := h.few
  obtain ⟨h3, h4⟩ := hf
  exact ⟨hv, h.below.trans (hc.below (fun k hk => hk) h.below.size), h.text.chg hc (fun g off e hn => by have := h.old g off e hn; omega), h.old, skip_le h4, by simp; omega, by rw [h.says, rd_tok hi ht]⟩
set_option maxRecDepth 100000 in
set_option maxHeartbeats 8000000 in
theorem RefRead_any (hb : BytesAt w a bs) (ok : TextOk a bs c) : Calls Try.prog 8 #[.slice a bs.length c] w (RefIs bs w) := by
  have HOK := Lib.hid ok
  have hB0 : Below w.heap.size w (w.alloc (.cells #[] 38)) := (Below.refl _ _).alloc (Nat.le_refl _) _
  have HS0 := Lib.hid (show RefSt w a bs (w.alloc (.cells #[] 38)) (.slice (some ⟨w.heap.size, 0, none⟩) 0 0) (skipP bs 0) [] from
    ⟨World.ownsRow_lit w #[] 0 (Nat.le_refl _) (by unfold maxLen; omega) rfl, hB0, hb.kept hB0, fun g off e hn => by rw [e] at hb; exact hb.lt hn, skip_le (Nat.zero_le _), Nat.zero_le _, rfl⟩)
  have HSK := Lib.hid (Skip_any (i := 0) (hb.kept hB0) ok (Nat.zero_le _))
  have HSM := Lib.hid ok.small
  obtain ⟨L, hL⟩ : ∃ L, bs.length = L := ⟨_, rfl⟩
  have HL := Lib.hid hL
  rw [hL] at HSK ⊢
  clear hb ok hB0 hL
  go_enter Try.func8, Try.ntmps8
  go_wp2_with fail
  refine HSK.out.mono ?_
  rintro e w2 ⟨rfl, rfl⟩
  clear HSK
  go_wp2_with fail
  go_loopw [4, 5] (fun (v u : Value) (wr : World) => ∃ (i : Nat) (acc : List Tok), u = .int .i64 (i : Int) ∧ Hid (RefSt w a bs wr v i acc)) (fun _ u _ => L - (intOf u).toNat)
  case atStart => exact ⟨_, _, rfl, HS0⟩
  case round =>
    obtain ⟨i, acc, rfl, HK⟩ := hrel
    clear HS0
    have hle := HK.out.le
    rw [HL.out] at hle
    by_cases hi : i < L
    · have hib : i < bs.length := by rw [HL.out]; exact hi
      have HT := Lib.hid (Token_any HK.out.text HOK.out hib)
      have hiL : (i : Int) < (L : Int) := by omega
      have HI := Lib.hid hib
      rw [HL.out] at HT
      cases hr : tokP bs i with
      | bad p =>
        rw [hr] at HT
        have hbad : readP bs = .error p := by rw [HK.out.says, rd_bad hib hr]
        have HBAD := Lib.hid hbad
        have hp0 : (0 : Int) ≤ (p : Int) := by omega
        clear hbad hr hib hle
        go_wp2_with fail
        refine HT.out.mono ?_
        rintro e w3 ⟨⟨k3, s3, q3, rfl⟩, hb3⟩
        have HB3 := Lib.hid (((HK.out.past hb3).past (W' := w3.alloc (.cells #[.int .i64 k3, .string s3, .int .i64 q3] 38)) ((Below.refl _ _).alloc (Nat.le_refl _) _)).below)
        clear hb3
        go_wp2_with fail
        refine bodyPost_ret (v := .tuple #[.slice none 0 0, .int .i64 (p : Int)]) ?_ rfl (by unfold RefIs; rw [HBAD.out]; exact ⟨HB3.out, rfl⟩)
        simp [results, Try.results8]
      | tok k t e =>
        rw [hr] at HT
        have hfit := tok_fits hib
        rw [hr] at hfit
        have HFT := Lib.hid hfit
        have HR := Lib.hid hr
        clear hr hib hle hfit
        go_wp2_with fail
        refine HT.out.mono ?_
        rintro e1 w3 ⟨rfl, hb3⟩
        have h5 := ((HK.out.past hb3).past (W' := w3.alloc (.cells #[.int .i64 k, .string (txt t), .int .i64 (i : Int)] 38)) ((Below.refl _ _).alloc (Nat.le_refl _) _)).past (W' := (w3.alloc (.cells #[.int .i64 k, .string (txt t), .int .i64 (i : Int)] 38)).alloc (.cells #[.int .i64 k, .string (txt t), .int .i64 (i : Int)] 38)) ((Below.refl _ _).alloc (Nat.le_refl _) _)
        have hcl5 : ∀ j u, (tcell ⟨k, t, i⟩)[j]? = some u → ((w3.alloc (.cells #[.int .i64 k, .string (txt t), .int .i64 (i : Int)] 38)).alloc (.cells #[.int .i64 k, .string (txt t), .int .i64 (i : Int)] 38)).cell? ((⟨w3.heap.size + 1, 0, none⟩ : Addr).add j) = some u := by
          intro j u hu
          rw [Addr.add_mid]
          have := rangeAt_new (w3.alloc (.cells #[.int .i64 k, .string (txt t), .int .i64 (i : Int)] 38)) (tcell ⟨k, t, i⟩) 38 j u hu
          simpa [tcell, tk3] using this
        have hln5 : acc.length + 1 ≤ 1000000 := by have := HK.out.few; have := HI.out; have := HSM.out; omega
        have H5 := Lib.hid (And.intro h5 (And.intro hcl5 (And.intro hln5 h5.below.size)))
        clear h5 hcl5 hln5 hb3
        go_wp2_with (refine wpList_appT rfl (.tmp 26) (.tmp 28) rfl w.heap.size _ acc rfl H5.out.1.row ⟨w3.heap.size + 1, 0, none⟩ 1 ⟨k, t, i⟩ rfl H5.out.2.1 H5.out.2.2.1 H5.out.2.2.2 ?_; intro v6 w6 hv6 hg6; have H6 := Lib.hid (H5.out.1.more HR.out HI.out hv6 hg6); clear hv6 hg6)
        have HSK := Lib.hid (Skip_any (i := e) H6.out.text HOK.out HFT.out.2)
        rw [HL.out] at HSK
        refine HSK.out.mono ?_
        rintro e7 w7 ⟨rfl, rfl⟩
        clear HSK
        go_wp2_with fail
        go_roundw
        case rel => exact ⟨_, _, rfl, H6⟩
        case measure =>
          have h1 : e ≤ skipP bs e := skip_ge
          have h2 := HFT.out.1
          simp [intOf]
          omega
    · have hend : readP bs = .ok acc := by rw [HK.out.says]; exact rd_end (by rw [HL.out]; omega)
      have HEND := Lib.hid hend
      clear hend hle
      obtain ⟨a2, c2, hv, ht2, hl2, hcm2, hn2, hx2⟩ := HK.out.row.value
      subst hv
      have HF := Lib.hid (And.intro ht2 (And.intro hl2 (And.intro hcm2 (And.intro hn2 hx2))))
      clear ht2 hl2 hcm2 hn2 hx2
      go_wp2_with fail
      refine bodyPost_ret (v := .tuple #[.slice a2 acc.length c2, .int .i64 (-1)]) ?_ rfl (by unfold RefIs; rw [HEND.out]; exact ⟨HK.out.below, a2, c2, rfl, HF.out⟩)
      simp [results, Try.results8]
/-! ### Two rows of tokens -/
/-- Are two tokens one? -/
def tokEq (x y : Tok) : Bool := x.kind == y.kind && ((txt x.text).toList == (txt y.text).toList && (x.pos : Int) == (y.pos : Int))
theorem tokEq_refl (x : Tok) : tokEq x x = true := by simp [tokEq]
/-- Are two rows one? -/
def sameB (l m : List Tok) : Bool := l.length == m.length && (List.range l.length).all fun k => tokEq (l.getD k default) (m.getD k default)
theorem sameB_refl (l : List Tok) : sameB l l = true := by simp [sameB, tokEq_refl]
theorem run_equal_tok (w : World) (k k' p p' : Int) (s s' : ByteArray) : (Op.equalIn 10000 38 (.agg (tk3 k s p).toArray) (.agg (tk3 k' s' p').toArray)).run Try.prog w = .ok (k == k' && (s.toList == s'.toList && p == p')) w := by
  have e := run_equalIn_struct (P := Try.prog) w 9999 38 (tk3 k s p).toArray (tk3 k' s' p').toArray (by kernel_rfl) (by kernel_rfl)
  refine e.trans ?_
  have hf : (Try.prog.fieldsOf 38).toList.map (fun f => (f.name == "_", f.type, f.offset)) = [(false, 3, 0), (false, 9, 1), (false, 3, 2)] := by kernel_rfl
  generalize (Try.prog.fieldsOf 38).toList = fs at hf ⊢
  clear e
  rcases fs with _ | ⟨f1, _ | ⟨f2, _ | ⟨f3, _ | ⟨f4, r⟩⟩⟩⟩ <;> simp at hf
  obtain ⟨⟨n1, t1, o1⟩, ⟨n2, t2, o2⟩, ⟨n3, t3, o3⟩⟩ := hf
  have ui := Try.underlying3
  have us := Try.underlying9
  have p1 : ∀ w, (part f1.type (tk3 k s p).toArray f1.offset).run Try.prog w = .ok (.int .i64 k) w := fun w => by rw [t1, o1]; simp [part, isAgg, run_underlying ui, tk3]
  have q1 : ∀ w, (part f1.type (tk3 k' s' p').toArray f1.offset).run Try.prog w = .ok (.int .i64 k') w := fun w => by rw [t1, o1]; simp [part, isAgg, run_underlying ui, tk3]
  have p2 : ∀ w, (part f2.type (tk3 k s p).toArray f2.offset).run Try.prog w = .ok (.string s) w := fun w => by rw [t2, o2]; simp [part, isAgg, run_underlying us, tk3]
  have q2 : ∀ w, (part f2.type (tk3 k' s' p').toArray f2.offset).run Try.prog w = .ok (.string s') w := fun w => by rw [t2, o2]; simp [part, isAgg, run_underlying us, tk3]
  have p3 : ∀ w, (part f3.type (tk3 k s p).toArray f3.offset).run Try.prog w = .ok (.int .i64 p) w := fun w => by rw [t3, o3]; simp [part, isAgg, run_underlying ui, tk3]
  have q3 : ∀ w, (part f3.type (tk3 k' s' p').toArray f3.offset).run Try.prog w = .ok (.int .i64 p') w := fun w => by rw [t3, o3]; simp [part, isAgg, run_underlying ui, tk3]
  have e1 : ∀ w, (Op.equalIn 9999 f1.type (.int .i64 k) (.int .i64 k')).run Try.prog w = .ok (k == k') w := fun w => by rw [t1]; exact run_equalIn_int w 9998 _ _ _ _ _ ui
  have e2 : ∀ w, (Op.equalIn 9999 f2.type (.string s) (.string s')).run Try.prog w = .ok (s.toList == s'.toList) w := fun w => by rw [t2]; exact run_equalIn_string w 9998 _ _ _ us
  have e3 : ∀ w, (Op.equalIn 9999 f3.type (.int .i64 p) (.int .i64 p')).run Try.prog w = .ok (p == p') w := fun w => by rw [t3]; exact run_equalIn_int w 9998 _ _ _ _ _ ui
  simp only [Op.eqFields, ne_eq, n1, n2, n3, not_false_eq_true, if_true, Sem.run_bind, p1, q1, p2, q2, p3, q3, e1, e2, e3, Result.andThen_ok]
  generalize (k == k') = b1 at *
  generalize (s.toList == s'.toList) = b2 at *
  generalize (p == p') = b3 at *
  cases b1 <;> cases b2 <;> cases b3 <;> simp [e1, e2, e3, p2, q2, p3, q3]
theorem run_neq_tok (w : World) (x y : Tok) : (binOp .neq 38 (.agg (tcell x).toArray) (.agg (tcell y).toArray)).run Try.prog w = .ok (.bool (!tokEq x y)) w := by
  rw [run_neq_struct]
  unfold tcell
  rw [run_equal_tok]
  rfl
theorem run_eql_tok (w : World) (x y : Tok) : (binOp .eql 38 (.agg (tcell x).toArray) (.agg (tcell y).toArray)).run Try.prog w = .ok (.bool (tokEq x y)) w := by
  rw [run_eql_struct]
  unfold tcell
  rw [run_equal_tok]
  rfl
theorem run_neqT_op {o : Oper} {aa : Act} {w : World} (t2 : TypeId) (x y : Operand) (ho : o.op = .binOp .neq 38 x y t2) (X Y : Tok) (hx : aa.eval x = .agg (tcell X).toArray) (hy : aa.eval y = .agg (tcell Y).toArray) :
    (execOp aa.eval o).run Try.prog w = .ok (.value (.bool (!tokEq X Y))) w := by
  have hg := run_eqGuard_agg (P := Try.prog) w .neq 38 x y (tcell X).toArray (tcell Y).toArray (by kernel_rfl)
  have hr := run_neq_tok w X Y
  unfold execOp
  simp [ho, hx, hy, hg, hr]
theorem run_eqlT_op {o : Oper} {aa : Act} {w : World} (t2 : TypeId) (x y : Operand) (ho : o.op = .binOp .eql 38 x y t2) (X Y : Tok) (hx : aa.eval x = .agg (tcell X).toArray) (hy : aa.eval y = .agg (tcell Y).toArray) :
    (execOp aa.eval o).run Try.prog w = .ok (.value (.bool (tokEq X Y))) w := by
  have hg := run_eqGuard_agg (P := Try.prog) w .eql 38 x y (tcell X).toArray (tcell Y).toArray (by kernel_rfl)
  have hr := run_eql_tok w X Y
  unfold execOp
  simp [ho, hx, hy, hg, hr]
theorem ToksAt.at {l : List Tok} (h : ToksAt w a l) {k : Nat} (hk : k < l.length) : ∃ g off, a = some ⟨g, off, none⟩ ∧ w.rangeAt g (off + k * 3) (tcell (l.getD k default)) := by
  rcases h with e | ⟨g, off, e, h⟩
  · subst e; simp at hk
  · refine ⟨g, off, e, fun j u hu => ?_⟩
    have := h (3 * k + j) u (tcells_at l k hk j u hu)
    rw [show off + k * 3 + j = off + (3 * k + j) by omega]
    exact this
theorem tsize (x : Tok) : (Try.prog.info? 38).map (·.size) = some (tcell x).length := size_token
set_option maxRecDepth 100000 in
set_option maxHeartbeats 4000000 in
theorem Same_any {a1 a2 : Option Addr} {l1 l2 : List Tok} {c1 c2 : Nat} (h1 : ToksAt w a1 l1) (h2 : ToksAt w a2 l2) (hs : l1.length ≤ 1000000) :
    Calls Try.prog 9 #[.slice a1 l1.length c1, .slice a2 l2.length c2] w (Drew (sameB l1 l2) w) := by
  by_cases hlen : l1.length = l2.length
  · have H1 := Lib.hid h1
    have H2 := Lib.hid h2
    have hsb : sameB l1 l2 = (List.range l1.length).all fun k => tokEq (l1.getD k default) (l2.getD k default) := by simp [sameB, hlen]
    rw [hsb, ← hlen]
    obtain ⟨L, hL⟩ : ∃ L, l1.length = L := ⟨_, rfl⟩
    have HL := Lib.hid hL
    have HLEN := Lib.hid hlen
    rw [hL] at hs ⊢
    clear h1 h2 hlen hsb hL
    go_enter Try.func9, Try.ntmps9
    go_wp2_with fail
    go_loopw [5] (fun (v : Value) (wr : World) => ∃ k n : Nat, k ≤ L ∧ v = .int .i64 (k : Int) ∧ Hid (wr = w.drewN n ∧ (List.range k).all (fun k => tokEq (l1.getD k default) (l2.getD k default)) = true)) (fun v _ => L - (intOf v).toNat)
    case atStart => exact ⟨0, 0, Nat.zero_le _, rfl, Lib.hid ⟨rfl, rfl⟩⟩
    case round =>
      obtain ⟨k, n, hk, rfl, HK⟩ := hrel
      by_cases hkl : k < L
      · have hbw : Below w.heap.size w wr := by rw [HK.out.1]; exact below_drewN w n
        obtain ⟨g1, o1, rfl, hx⟩ := (H1.out.kept hbw).at (k := k) (by rw [HL.out]; exact hkl)
        obtain ⟨g2, o2, rfl, hy⟩ := (H2.out.kept hbw).at (k := k) (by rw [← HLEN.out, HL.out]; exact hkl)
        have hnx : (List.range (k + 1)).all (fun k => tokEq (l1.getD k default) (l2.getD k default)) = tokEq (l1.getD k default) (l2.getD k default) := by
          rw [List.range_succ, List.all_append, HK.out.2]
          simp
        have hall : tokEq (l1.getD k default) (l2.getD k default) = false → ((List.range L).all fun k => tokEq (l1.getD k default) (l2.getD k default)) = false := by
          intro hf
          rw [List.all_eq_false]
          exact ⟨k, by simp [hkl], by simpa using hf⟩
        generalize l1.getD k default = X at *
        generalize l2.getD k default = Y at *
        have hkL : (k : Int) < (L : Int) := by omega
        have HX := Lib.hid (And.intro hx hy)
        obtain ⟨q, hq⟩ : ∃ q, tokEq X Y = q := ⟨_, rfl⟩
        rw [hq] at hnx hall
        have HQ := Lib.hid hq
        have HNX := Lib.hid hnx
        have HALL := Lib.hid hall
        clear hx hy hnx hall hq hbw
        cases q with
        | true =>
          go_wp2_with fail
          refine wp_region_held_drew (S := (fun w' => w'.rangeAt g1 (o1 + k * 3) (tcell X) ∧ w'.rangeAt g2 (o2 + k * 3) (tcell Y))) (by kernel_rfl) ?_ (fun hHeld => ?_)
          · exact HX.out
          refine wpAnyH_take (i := 0) (v := ?_) (by rfl) (by kernel_rfl) (by kernel_rfl) (by kernel_rfl) (by exact fun _ _ _ h => h) (Or.inl ⟨by rfl, ?_⟩) hHeld ?_
          rotate_left 1
          · intro w' hSw
            (try dsimp only at hSw)
            go_simp
            try with_reducible rfl
          try simp only [Act.put, List.setIfInBounds_toArray, List.set_cons_zero, List.set_cons_succ, List.getElem_toArray, List.getElem_cons_zero, List.getElem_cons_succ]
          refine wpAnyH_take (i := 1) (v := ?_) (by rfl) (by kernel_rfl) (by kernel_rfl) (by kernel_rfl) (by exact fun _ _ _ h => h) (Or.inl ⟨by rfl, ?_⟩) hHeld ?_
          rotate_left 1
          · intro w' hSw
            (try dsimp only at hSw)
            go_simp
            try with_reducible rfl
          try simp only [Act.put, List.setIfInBounds_toArray, List.set_cons_zero, List.set_cons_succ, List.getElem_toArray, List.getElem_cons_zero, List.getElem_cons_succ]
          refine wpAnyH_take (i := 2) (v := ?_) (by rfl) (by kernel_rfl) (by kernel_rfl) (by kernel_rfl) (by exact fun _ _ _ h => h) (Or.inl ⟨by rfl, ?_⟩) hHeld ?_
          rotate_left 1
          · intro w' hSw
            (try dsimp only at hSw)
            go_simp
            try with_reducible rfl
          try simp only [Act.put, List.setIfInBounds_toArray, List.set_cons_zero, List.set_cons_succ, List.getElem_toArray, List.getElem_cons_zero, List.getElem_cons_succ]
          refine wpAnyH_take (i := 3) (v := .agg (tcell X).toArray) (by rfl) (by kernel_rfl) (by kernel_rfl) (by kernel_rfl) (by exact fun _ _ _ h => h) (Or.inl ⟨by rfl, ?_⟩) hHeld ?_
          · intro w' hSw
            exact run_load_op 38 (.tmp 19) rfl g1 (o1 + k * 3) rfl (tcell X) _ hSw.1 Try.underlying38 rfl (tsize X)
          try simp only [Act.put, List.setIfInBounds_toArray, List.set_cons_zero, List.set_cons_succ, List.getElem_toArray, List.getElem_cons_zero, List.getElem_cons_succ]
          refine wpAnyH_take (i := 4) (v := ?_) (by rfl) (by kernel_rfl) (by kernel_rfl) (by kernel_rfl) (by exact fun _ _ _ h => h) (Or.inl ⟨by rfl, ?_⟩) hHeld ?_
          rotate_left 1
          · intro w' hSw
            (try dsimp only at hSw)
            go_simp
            try with_reducible rfl
          try simp only [Act.put, List.setIfInBounds_toArray, List.set_cons_zero, List.set_cons_succ, List.getElem_toArray, List.getElem_cons_zero, List.getElem_cons_succ]
          refine wpAnyH_take (i := 5) (v := ?_) (by rfl) (by kernel_rfl) (by kernel_rfl) (by kernel_rfl) (by exact fun _ _ _ h => h) (Or.inl ⟨by rfl, ?_⟩) hHeld ?_
          rotate_left 1
          · intro w' hSw
            (try dsimp only at hSw)
            go_simp
            try with_reducible rfl
          try simp only [Act.put, List.setIfInBounds_toArray, List.set_cons_zero, List.set_cons_succ, List.getElem_toArray, List.getElem_cons_zero, List.getElem_cons_succ]
          refine wpAnyH_take (i := 6) (v := ?_) (by rfl) (by kernel_rfl) (by kernel_rfl) (by kernel_rfl) (by exact fun _ _ _ h => h) (Or.inl ⟨by rfl, ?_⟩) hHeld ?_
          rotate_left 1
          · intro w' hSw
            (try dsimp only at hSw)
            go_simp
            try with_reducible rfl
          try simp only [Act.put, List.setIfInBounds_toArray, List.set_cons_zero, List.set_cons_succ, List.getElem_toArray, List.getElem_cons_zero, List.getElem_cons_succ]
          refine wpAnyH_take (i := 7) (v := .agg (tcell Y).toArray) (by rfl) (by kernel_rfl) (by kernel_rfl) (by kernel_rfl) (by exact fun _ _ _ h => h) (Or.inl ⟨by rfl, ?_⟩) hHeld ?_
          · intro w' hSw
            exact run_load_op 38 (.tmp 23) rfl g2 (o2 + k * 3) rfl (tcell Y) _ hSw.2 Try.underlying38 rfl (tsize Y)
          try simp only [Act.put, List.setIfInBounds_toArray, List.set_cons_zero, List.set_cons_succ, List.getElem_toArray, List.getElem_cons_zero, List.getElem_cons_succ]
          refine wpAnyH_take (i := 8) (v := .bool (!true)) (by rfl) (by kernel_rfl) (by kernel_rfl) (by kernel_rfl) (by exact fun _ _ _ h => h) (Or.inl ⟨by rfl, ?_⟩) hHeld ?_
          · intro w' hSw
            exact (run_neqT_op _ (.tmp 20) (.tmp 24) rfl X Y rfl rfl).trans (by rw [HQ.out])
          try simp only [Act.put, List.setIfInBounds_toArray, List.set_cons_zero, List.set_cons_succ, List.getElem_toArray, List.getElem_cons_zero, List.getElem_cons_succ]
          refine wpAnyH_done (by kernel_rfl) ?_ _
          clear hHeld
          go_wp2_with fail
          go_roundw
          case rel => exact ⟨k + 1, n + 1, by omega, by go_num, Lib.hid ⟨by rw [HK.out.1]; rfl, HNX.out⟩⟩
          case measure => simp [intOf]; omega
        | false =>
          go_wp2_with fail
          refine wp_region_held_drew (S := (fun w' => w'.rangeAt g1 (o1 + k * 3) (tcell X) ∧ w'.rangeAt g2 (o2 + k * 3) (tcell Y))) (by kernel_rfl) ?_ (fun hHeld => ?_)
          · exact HX.out
          refine wpAnyH_take (i := 0) (v := ?_) (by rfl) (by kernel_rfl) (by kernel_rfl) (by kernel_rfl) (by exact fun _ _ _ h => h) (Or.inl ⟨by rfl, ?_⟩) hHeld ?_
          rotate_left 1
          · intro w' hSw
            (try dsimp only at hSw)
            go_simp
            try with_reducible rfl
          try simp only [Act.put, List.setIfInBounds_toArray, List.set_cons_zero, List.set_cons_succ, List.getElem_toArray, List.getElem_cons_zero, List.getElem_cons_succ]
          refine wpAnyH_take (i := 1) (v := ?_) (by rfl) (by kernel_rfl) (by kernel_rfl) (by kernel_rfl) (by exact fun _ _ _ h => h) (Or.inl ⟨by rfl, ?_⟩) hHeld ?_
          rotate_left 1
          · intro w' hSw
            (try dsimp only at hSw)
            go_simp
            try with_reducible rfl
          try simp only [Act.put, List.setIfInBounds_toArray, List.set_cons_zero, List.set_cons_succ, List.getElem_toArray, List.getElem_cons_zero, List.getElem_cons_succ]
          refine wpAnyH_take (i := 2) (v := ?_) (by rfl) (by kernel_rfl) (by kernel_rfl) (by kernel_rfl) (by exact fun _ _ _ h => h) (Or.inl ⟨by rfl, ?_⟩) hHeld ?_
          rotate_left 1
          · intro w' hSw
            (try dsimp only at hSw)
            go_simp
            try with_reducible rfl
          try simp only [Act.put, List.setIfInBounds_toArray, List.set_cons_zero, List.set_cons_succ, List.getElem_toArray, List.getElem_cons_zero, List.getElem_cons_succ]
          refine wpAnyH_take (i := 3) (v := .agg (tcell X).toArray) (by rfl) (by kernel_rfl) (by kernel_rfl) (by kernel_rfl) (by exact fun _ _ _ h => h) (Or.inl ⟨by rfl, ?_⟩) hHeld ?_
          · intro w' hSw
            exact run_load_op 38 (.tmp 19) rfl g1 (o1 + k * 3) rfl (tcell X) _ hSw.1 Try.underlying38 rfl (tsize X)
          try simp only [Act.put, List.setIfInBounds_toArray, List.set_cons_zero, List.set_cons_succ, List.getElem_toArray, List.getElem_cons_zero, List.getElem_cons_succ]
          refine wpAnyH_take (i := 4) (v := ?_) (by rfl) (by kernel_rfl) (by kernel_rfl) (by kernel_rfl) (by exact fun _ _ _ h => h) (Or.inl ⟨by rfl, ?_⟩) hHeld ?_
          rotate_left 1
          · intro w' hSw
            (try dsimp only at hSw)
            go_simp
            try with_reducible rfl
          try simp only [Act.put, List.setIfInBounds_toArray, List.set_cons_zero, List.set_cons_succ, List.getElem_toArray, List.getElem_cons_zero, List.getElem_cons_succ]
          refine wpAnyH_take (i := 5) (v := ?_) (by rfl) (by kernel_rfl) (by kernel_rfl) (by kernel_rfl) (by exact fun _ _ _ h => h) (Or.inl ⟨by rfl, ?_⟩) hHeld ?_
          rotate_left 1
          · intro w' hSw
            (try dsimp only at hSw)
            go_simp
            try with_reducible rfl
          try simp only [Act.put, List.setIfInBounds_toArray, List.set_cons_zero, List.set_cons_succ, List.getElem_toArray, List.getElem_cons_zero, List.getElem_cons_succ]
          refine wpAnyH_take (i := 6) (v := ?_) (by rfl) (by kernel_rfl) (by kernel_rfl) (by kernel_rfl) (by exact fun _ _ _ h => h) (Or.inl ⟨by rfl, ?_⟩) hHeld ?_
          rotate_left 1
          · intro w' hSw
            (try dsimp only at hSw)
            go_simp
            try with_reducible rfl
          try simp only [Act.put, List.setIfInBounds_toArray, List.set_cons_zero, List.set_cons_succ, List.getElem_toArray, List.getElem_cons_zero, List.getElem_cons_succ]
          refine wpAnyH_take (i := 7) (v := .agg (tcell Y).toArray) (by rfl) (by kernel_rfl) (by kernel_rfl) (by kernel_rfl) (by exact fun _ _ _ h => h) (Or.inl ⟨by rfl, ?_⟩) hHeld ?_
          · intro w' hSw
            exact run_load_op 38 (.tmp 23) rfl g2 (o2 + k * 3) rfl (tcell Y) _ hSw.2 Try.underlying38 rfl (tsize Y)
          try simp only [Act.put, List.setIfInBounds_toArray, List.set_cons_zero, List.set_cons_succ, List.getElem_toArray, List.getElem_cons_zero, List.getElem_cons_succ]
          refine wpAnyH_take (i := 8) (v := .bool (!false)) (by rfl) (by kernel_rfl) (by kernel_rfl) (by kernel_rfl) (by exact fun _ _ _ h => h) (Or.inl ⟨by rfl, ?_⟩) hHeld ?_
          · intro w' hSw
            exact (run_neqT_op _ (.tmp 20) (.tmp 24) rfl X Y rfl rfl).trans (by rw [HQ.out])
          try simp only [Act.put, List.setIfInBounds_toArray, List.set_cons_zero, List.set_cons_succ, List.getElem_toArray, List.getElem_cons_zero, List.getElem_cons_succ]
          refine wpAnyH_done (by kernel_rfl) ?_ _
          clear hHeld
          go_wp2_with fail
          go_ret
          exact ⟨by rw [HALL.out trivial]; rfl, n + 1, by rw [HK.out.1]; rfl⟩
      · obtain rfl : k = L := by omega
        clear hk hkl
        go_wp2_with fail
        go_ret
        exact ⟨by rw [HK.out.2]; rfl, n, HK.out.1⟩
  · have hsb : sameB l1 l2 = false := by simp [sameB, hlen]
    have hne : ((l1.length : Int) == (l2.length : Int)) = false := by simp; omega
    rw [hsb]
    clear h1 h2 hsb hlen
    go_enter Try.func9, Try.ntmps9
    go_wp2_with fail
    go_ret
    exact ⟨rfl, 0, rfl⟩
end
end Go.Proofs.Ytfmidhjenapaeaa
