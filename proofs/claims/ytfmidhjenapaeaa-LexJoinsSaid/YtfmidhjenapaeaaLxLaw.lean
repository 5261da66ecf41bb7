/-
  Layer 7, the statements: the document's example; LexReads.
-/
import Derived.Test.YtfmidhjenapaeaaLxRead
import Derived.Test.YtfmidhjenapaeaaLxRRead
import Derived.Lib.SlBytesConst
set_option linter.unusedVariables false
set_option linter.unusedSimpArgs false
namespace Go.Proofs.Ytfmidhjenapaeaa
open Go.RowKit Lx

section
variable {w W : World} {a : Option Addr} {c : Nat} {bs : List Int} {B : Nat} {v : Value}
/-- A row of bytes of one's own is a text that may be read. -/
theorem Row8.toText (h : Row8 w B v bs) (hs : bs.length ≤ 100000) (hb : ∀ x ∈ bs, 0 ≤ x ∧ x < 256) : ∃ a c, v = .slice a bs.length c ∧ BytesAt w a bs ∧ TextOk a bs c := by
  obtain ⟨h1, ⟨rfl, h2⟩ | ⟨g, cap, cur, rfl, hbg, hg, hc, hm, hcs, ht⟩⟩ := h
  · exact ⟨none, 0, by rw [h2], .inl (List.eq_nil_of_length_eq_zero h2), hs, by omega, by omega, hb, .inl ⟨rfl, rfl⟩⟩
  · refine ⟨_, _, rfl, .inr ⟨g, 0, rfl, fun j u hu => ?_⟩, hs, hc, by unfold maxLen at hm; omega, hb, .inr ⟨_, rfl⟩⟩
    rw [← ht, List.getElem?_take] at hu
    split at hu
    · rw [Nat.zero_add]
      simp only [World.cell?, hg]
      simpa using hu
    · cases hu
/-- Bytes laid anew. -/
theorem text_new (w : World) (bs : List Int) (fr : Nat × Nat) (hs : bs.length ≤ 100000) (hb : ∀ x ∈ bs, 0 ≤ x ∧ x < 256) : BytesAt (w.alloc (.cells (bys bs).toArray 5 fr)) (some ⟨w.heap.size, 0, none⟩) bs ∧ TextOk (some ⟨w.heap.size, 0, none⟩) bs bs.length :=
  ⟨.inr ⟨_, _, rfl, fun j u hu => by rw [Nat.zero_add, World.cell?_alloc_mark]; simpa using hu⟩, hs, Nat.le_refl _, by omega, hb, .inr ⟨_, rfl⟩⟩
/-- The document's example. -/
def exB : List Int := [40, 120, 32, 49, 46, 53, 48, 41]
def exT : List Tok := [⟨1, [40], 0⟩, ⟨3, [120], 1⟩, ⟨5, [49, 46, 53, 48], 3⟩, ⟨2, [41], 7⟩]
theorem ex_reads : readP exB = .ok exT := by
  have s0 : skipP exB 0 = 0 := skip_stop (by decide) (by decide)
  have s1 : skipP exB 1 = 1 := skip_stop (by decide) (by decide)
  have s2 : skipP exB 2 = 3 := by
    rw [skip_blank (by decide)]
    exact skip_stop (by decide) (by decide)
  have s7 : skipP exB 7 = 7 := skip_stop (by decide) (by decide)
  have s8 : skipP exB 8 = 8 := skip_stop (by decide) (by decide)
  unfold readP
  rw [s0, rd_tok (k := 1) (t := [40]) (e := 1) (by decide) (by rfl), s1, rd_tok (k := 3) (t := [120]) (e := 2) (by decide) (by rfl), s2,
    rd_tok (k := 5) (t := [49, 46, 53, 48]) (e := 7) (by decide) (by rfl), s7, rd_tok (k := 2) (t := [41]) (e := 8) (by decide) (by rfl), s8, rd_end (by decide)]
  rfl
theorem no_reads : readP [35] = .error 0 := by
  have s0 : skipP [35] 0 = 0 := skip_stop (by decide) (by decide)
  unfold readP
  rw [s0, rd_bad (p := 0) (by decide) (by rfl)]
/-- A call that is true. -/
def Yes (w : World) (e : Ending) (w' : World) : Prop := e = .returned (.bool true) ∧ Below w.heap.size w w'
set_option maxRecDepth 100000 in
set_option maxHeartbeats 4000000 in
theorem speaks_any (w : World) : Calls Try.prog 6 #[] w (Yes w) := by
  have hr1 : Calls Try.prog 7 #[.slice (some ⟨w.heap.size, 0, none⟩) 8 8] (w.alloc (.cells #[.int .u8 40, .int .u8 120, .int .u8 32, .int .u8 49, .int .u8 46, .int .u8 53, .int .u8 48, .int .u8 41] 5 (8, 8 + 1))) (ReadIs exB _) :=
    Read_any (text_new w exB (8, 8 + 1) (by decide) (by decide)).1 (text_new w exB (8, 8 + 1) (by decide) (by decide)).2
  have HR1 := Lib.hid hr1
  have hr2 : ∀ W : World, Calls Try.prog 7 #[.slice (some ⟨W.heap.size, 0, none⟩) 1 1] (W.alloc (.cells #[.int .u8 35] 5 (1, 1 + 1))) (ReadIs [35] _) := fun W =>
    Read_any (text_new W [35] (1, 1 + 1) (by decide) (by decide)).1 (text_new W [35] (1, 1 + 1) (by decide) (by decide)).2
  have HR2 := Lib.hid hr2
  have kc := fun (w : World) (C : Array Value) (n c : Nat) => Lib.run_convert_bytes_const (P := Try.prog) w 22 5 C n c Try.underlying22 Try.underlying5
  have HX := Lib.hid ex_reads
  have HN := Lib.hid no_reads
  clear hr1 hr2
  go_enter Try.func6, Try.ntmps6
  go_wp2_with fail
  refine HR1.out.mono ?_
  rintro e w1 h1
  unfold ReadIs at h1
  rw [HX.out] at h1
  obtain ⟨hb1, a1, c1, rfl, ht1, hl1, hm1, hn1, hx1⟩ := h1
  have H1 := Lib.hid (And.intro hb1 ht1)
  clear hb1 ht1 hl1 hm1 hn1 hx1
  have hsz : (w1.alloc (.cells #[.int .i64 0, .int .i64 0] 27)).heap.size = w1.heap.size + 1 := by simp
  have kc2 := kc (w1.alloc (.cells #[.int .i64 0, .int .i64 0] 27)) #[.int .u8 35] 1 1
  have hr2 := HR2.out (w1.alloc (.cells #[.int .i64 0, .int .i64 0] 27))
  rw [hsz] at kc2 hr2
  have HR3 := Lib.hid hr2
  clear hsz hr2 HR2
  go_wp2_with fail
  refine HR3.out.mono ?_
  rintro e w2 h2
  unfold ReadIs at h2
  rw [HN.out] at h2
  obtain ⟨hb2, rfl⟩ := h2
  have hA : Below w1.heap.size w1 ((w1.alloc (.cells #[.int .i64 0, .int .i64 0] 27)).alloc (.cells #[.int .u8 35] 5 (1, 1 + 1))) := ((Below.refl _ _).alloc (Nat.le_refl _) _).alloc (by simp) _
  have hB : Below w1.heap.size w1 (w2.alloc (.cells #[.int .i64 10, .int .i64 0] 27)) := (hA.trans (hb2.mono hA.size)).alloc ((hA.trans (hb2.mono hA.size)).size) _
  obtain ⟨g, off, rfl, hx⟩ := (H1.out.2.kept hB).at (k := 2) (by decide)
  have hB0 : Below w.heap.size w w1 := ((Below.refl _ _).alloc (Nat.le_refl _) _).trans (H1.out.1.mono (by simp))
  have HB := Lib.hid (hB0.trans (hB.mono hB0.size))
  have hx' : (w2.alloc (.cells #[.int .i64 10, .int .i64 0] 27)).rangeAt g (off + 6) [Value.int .i64 5, .string { data := #[49, 46, 53, 48] }, .int .i64 3] := hx
  have HX2 := Lib.hid hx'
  have hf : (w2.alloc (.cells #[.int .i64 10, .int .i64 0] 27)).rangeAt w1.heap.size 0 [Value.int .i64 0, .int .i64 0] := by
    intro j u hu
    have h0 := rangeAt_new w1 [.int .i64 0, .int .i64 0] 27 j u hu
    have h1 : Below (w1.alloc (.cells #[.int .i64 0, .int .i64 0] 27)).heap.size (w1.alloc (.cells #[.int .i64 0, .int .i64 0] 27)) (w2.alloc (.cells #[.int .i64 10, .int .i64 0] 27)) := by
      have q1 := (Below.refl _ (w1.alloc (.cells #[.int .i64 0, .int .i64 0] 27))).alloc (Nat.le_refl _) (.cells #[.int .u8 35] 5 (1, 1 + 1))
      have q2 := q1.trans (hb2.mono q1.size)
      exact q2.alloc q2.size _
    exact (h1.cell (p := ⟨w1.heap.size, 0 + j, none⟩) (World.block_lt_of_cell? _ _ h0)).trans h0
  have HF1 := Lib.hid hf
  have h4 : exT.length = 4 := rfl
  rw [h4]
  clear hA hB hb2 hB0 hx hx' hf h4 kc kc2
  go_wp2_with (first | (refine wpList_val (.agg #[.int .i64 0, .int .i64 0]) (run_load_op 27 (.tmp 2) (by with_reducible rfl) w1.heap.size 0 (by rfl) [.int .i64 0, .int .i64 0] _ HF1.out Try.underlying27 rfl (by rw [size_fault]; rfl)) (by rfl) ?_) | (refine wpList_val (.agg #[.int .i64 5, .string { data := #[49, 46, 53, 48] }, .int .i64 3]) (run_load_op 38 (.tmp 27) (by with_reducible rfl) g (off + 6) (by rfl) [.int .i64 5, .string { data := #[49, 46, 53, 48] }, .int .i64 3] _ HX2.out Try.underlying38 rfl (by rw [size_token]; rfl)) (by rfl) ?_))
  go_ret
  exact ⟨rfl, HB.out⟩
/-- A text that a law is handed: as TextOk, however long. -/
structure TextIn (a : Option Addr) (bs : List Int) (c : Nat) : Prop where
  cap : bs.length ≤ c
  capped : c ≤ 9223372036854775807
  byte : ∀ x ∈ bs, 0 ≤ x ∧ x < 256
  mid : a = none ∧ c = 0 ∨ ∃ x, a = some x
theorem TextIn.ok (h : TextIn a bs c) (hs : bs.length ≤ 100000) : TextOk a bs c := ⟨hs, h.cap, h.capped, h.byte, h.mid⟩
/-- append of a text that may be nil. -/
theorem wpList_app8t {ops : Array Oper} {rest : List Oper} {o : Oper} {aa : Act} {Q : Exit → Act → World → Prop} (hgd : o.guard = none) (s x : Operand)
    (ho : o.op = .call { callee := .builtin .append, args := #[s, x], argTypes := #[22, 22] }) (B : Nat) (v : Value) (xs : List Int) (hv : aa.eval s = v) (h : Row8 w B v xs)
    (src : Option Addr) (n c : Nat) (news : List Int) (hx : aa.eval x = .slice src n c) (hn : news.length = n) (hs : BytesAt w src news) (hsm : src = none ∧ c = 0 ∧ news = [] ∨ ∃ ad, src = some ad) (hl : xs.length + news.length ≤ 1000000) (hB : B ≤ w.heap.size)
    (hk : ∀ v' w', Row8 w' B v' (xs ++ news) → w.grownBy w' v.ownBlock → wpList Try.prog ops Q rest (aa.put o.dst v') w') : wpList Try.prog ops Q (o :: rest) aa w := by
  rcases hsm with ⟨rfl, rfl, rfl⟩ | ⟨ad, rfl⟩
  · obtain ⟨i, h1, h2, h3, h4⟩ := info_u8'
    subst hn
    refine wpList_append_own_none hgd s x 22 ho B 5 i 1 Try.underlying22 h1 v xs.length (bys xs) hv h hx ?_
    refine hk v w (by simpa using h) ⟨rfl, rfl, rfl, Nat.le_refl _, fun _ _ _ => rfl⟩
  · exact wpList_app8 hgd s x ho B v xs hv h (some ad) n c news hx hn hs ad rfl hl hB hk
theorem TextIn.src (h : TextIn a bs c) : a = none ∧ c = 0 ∧ bs = [] ∨ ∃ ad, a = some ad := by
  rcases h.mid with ⟨h1, h2⟩ | ⟨x, e⟩
  · exact .inl ⟨h1, h2, List.eq_nil_of_length_eq_zero (by have := h.cap; omega)⟩
  · exact .inr ⟨_, e⟩
/-- What is behind a read of a text, and a variable for its fault. -/
theorem fault_keeps {w2 w4 : World} {x y : Value} (hb : Below (w2.alloc (.cells #[x, y] 27)).heap.size (w2.alloc (.cells #[x, y] 27)) w4) : w4.rangeAt w2.heap.size 0 [x, y] := fun j u hu => by
  have h0 := rangeAt_new w2 [x, y] 27 j u hu
  exact (hb.cell (p := ⟨w2.heap.size, 0 + j, none⟩) (World.block_lt_of_cell? _ _ h0)).trans h0
set_option maxRecDepth 100000 in
set_option maxHeartbeats 8000000 in
theorem reads_walk (hb : BytesAt w a bs) (ok : TextIn a bs c) : Calls Try.prog 3 #[.slice a bs.length c] w (Yes w) := by
  have HSP := Lib.hid (speaks_any w)
  have HB := Lib.hid hb
  have HOK := Lib.hid ok
  obtain ⟨L, hL⟩ : ∃ L, bs.length = L := ⟨_, rfl⟩
  have HL := Lib.hid hL
  rw [hL]
  clear hb ok hL
  go_enter Try.func3, Try.ntmps3
  go_wp2_with fail
  refine HSP.out.mono ?_
  rintro e w1 ⟨rfl, hb1⟩
  have HB1 := Lib.hid hb1
  clear hb1
  by_cases hbig : 5000 < L
  · have hg : (5000 : Int) < (L : Int) := by omega
    clear hbig
    go_wp2_with fail
    go_ret
    exact ⟨rfl, HB1.out⟩
  · have hg : ¬ (5000 : Int) < (L : Int) := by omega
    have hLs : bs.length ≤ 5000 := by rw [HL.out]; omega
    have HLS := Lib.hid hLs
    have hrow : Row8 (w1.alloc (.cells #[] 5)) w1.heap.size (.slice (some ⟨w1.heap.size, 0, none⟩) 0 0) [] := World.ownsRow_lit w1 #[] 0 (Nat.le_refl _) (by unfold maxLen; omega) rfl
    have hbb := (HB.out.kept HB1.out).kept (w' := w1.alloc (.cells #[] 5)) ((Below.refl _ _).alloc (Nat.le_refl _) _)
    have HROW := Lib.hid (And.intro hrow hbb)
    have HSM : Hid (([] : List Int).length + bs.length ≤ 1000000 ∧ w1.heap.size ≤ (w1.alloc (.cells #[] 5)).heap.size) := Lib.hid ⟨by simp; omega, by simp⟩
    clear hbig hLs hrow hbb
    go_wp2_with (refine wpList_app8t rfl (.tmp 13) (.tmp 14) rfl w1.heap.size _ [] rfl HROW.out.1 a L c bs rfl HL.out HROW.out.2 HOK.out.src HSM.out.1 HSM.out.2 ?_; intro v2 w2 hv2 hg2; have H2 := Lib.hid (And.intro hv2 (HROW.out.1.grown_chg hg2)); clear hv2 hg2)
    have hrow2 := H2.out.1
    rw [List.nil_append] at hrow2
    obtain ⟨a2, c2, rfl, hbt2, hok2⟩ := hrow2.toText (by have := HLS.out; omega) HOK.out.byte
    have HR := Lib.hid (Read_any hbt2 hok2)
    have HBW2 : Hid (Below w.heap.size w w2) := Lib.hid (by
      have q1 := HB1.out.alloc (o := .cells #[] 5) HB1.out.size
      exact q1.trans (H2.out.2.below (fun k hk => Nat.le_trans HB1.out.size hk) q1.size))
    clear hrow2 hbt2 hok2
    refine HR.out.mono ?_
    rintro e w3 hr3
    unfold ReadIs at hr3
    have HREF := Lib.hid (fun W (hW : BytesAt W a bs) => RefRead_any hW (HOK.out.ok (by have := HLS.out; omega)))
    rw [HL.out] at HREF
    unfold RefIs at HREF
    clear HR
    cases hrd : readP bs with
    | error p =>
      rw [hrd] at hr3 HREF
      obtain ⟨hb3, rfl⟩ := hr3
      have HBW3 : Hid (Below w.heap.size w (w3.alloc (.cells #[.int .i64 10, .int .i64 (p : Int)] 27))) := Lib.hid ((HBW2.out.trans (hb3.mono HBW2.out.size)).alloc (HBW2.out.trans (hb3.mono HBW2.out.size)).size _)
      have HT := Lib.hid (HREF.out _ (HB.out.kept HBW3.out))
      have hp0 : (0 : Int) ≤ (p : Int) := by omega
      clear hb3 hrd
      go_wp2_with fail
      refine HT.out.mono ?_
      rintro e w4 ⟨hb4, rfl⟩
      have HF := Lib.hid (fault_keeps hb4)
      have HBW4 := Lib.hid (HBW3.out.trans (hb4.mono HBW3.out.size))
      clear hb4
      go_wp2_with (first | (refine wpList_val (.agg #[.int .i64 10, .int .i64 (p : Int)]) (run_load_op 27 (.tmp 4) (by with_reducible rfl) w3.heap.size 0 (by rfl) [.int .i64 10, .int .i64 (p : Int)] _ HF.out Try.underlying27 rfl (by rw [size_fault]; rfl)) (by rfl) ?_))
      go_ret
      exact ⟨rfl, HBW4.out⟩
    | ok l =>
      rw [hrd] at hr3 HREF
      obtain ⟨hb3, a3, c3, rfl, ht3, hl3, hm3, hn3, hx3⟩ := hr3
      have HBW3 : Hid (Below w.heap.size w (w3.alloc (.cells #[.int .i64 0, .int .i64 0] 27))) := Lib.hid ((HBW2.out.trans (hb3.mono HBW2.out.size)).alloc (HBW2.out.trans (hb3.mono HBW2.out.size)).size _)
      have HT := Lib.hid (HREF.out _ (HB.out.kept HBW3.out))
      have HT3 := Lib.hid (ht3.kept (w' := w3.alloc (.cells #[.int .i64 0, .int .i64 0] 27)) ((Below.refl _ _).alloc (Nat.le_refl _) _))
      have hcnt := rd_count bs _ (skipP bs 0) [] l rfl hrd
      have hll : l.length ≤ 1000000 := by have := HLS.out; simp at hcnt; omega
      have HLL := Lib.hid hll
      clear hb3 hrd ht3 hl3 hm3 hn3 hx3 hcnt hll
      go_wp2_with fail
      refine HT.out.mono ?_
      rintro e w4 ⟨hb4, a4, c4, rfl, ht4, _, _, _, _⟩
      have HF := Lib.hid (fun n => fault_keeps (hb4.trans ((below_drewN w4 n).mono hb4.size)))
      have HBW4 := Lib.hid (fun n => (HBW3.out.trans (hb4.mono HBW3.out.size)).trans ((below_drewN w4 n).mono (HBW3.out.trans (hb4.mono HBW3.out.size)).size))
      have hsm := Same_any (c1 := c3) (c2 := c4) (HT3.out.kept hb4) ht4 HLL.out
      rw [sameB_refl] at hsm
      have HSAME := Lib.hid hsm
      clear hb4 ht4 hsm
      go_wp2_with fail
      refine HSAME.out.mono ?_
      rintro e w5 ⟨rfl, n, rfl⟩
      go_wp2_with (first | (refine wpList_val (.agg #[.int .i64 0, .int .i64 0]) (run_load_op 27 (.tmp 4) (by with_reducible rfl) w3.heap.size 0 (by rfl) [.int .i64 0, .int .i64 0] _ (HF.out n) Try.underlying27 rfl (by rw [size_fault]; rfl)) (by rfl) ?_))
      go_ret
      exact ⟨rfl, HBW4.out n⟩
end
end Go.Proofs.Ytfmidhjenapaeaa
