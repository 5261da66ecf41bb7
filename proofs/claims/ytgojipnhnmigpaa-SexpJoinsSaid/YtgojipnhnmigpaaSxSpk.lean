/-
  Layer 8: Deep; the document's example.
-/
import Derived.Test.YtgojipnhnmigpaaSxW5
import Derived.Lib.SlBytesConst
set_option linter.unusedVariables false
set_option linter.unusedSimpArgs false
namespace Go.Proofs.Ytgojipnhnmigpaa
open Go.RowKit Sx Lx

set_option maxRecDepth 100000 in
set_option maxHeartbeats 4000000 in
theorem Deep_any {w : World} {l : Bool} {K P : Int} {T : ByteArray} {v : Value} {k : Fo} (hv : SlAt w anyB v k) (hd : (Fo.one l ⟨K, T, P⟩ k).deep ≤ 1000000) :
    Calls Try.prog 10 #[.agg #[.bool l, .int .i64 K, .string T, .int .i64 P, v]] w (fun e w' => e = .returned (.int .i64 ((Fo.one l ⟨K, T, P⟩ k).deep : Int)) ∧ Below w.heap.size w w') := by
  have b1 := box_below w #[.bool l, .int .i64 K, .string T, .int .i64 P, v] 38
  have HSV := Lib.hid (survey_any (hv.kept b1) hd)
  have HB1 := Lib.hid b1
  obtain ⟨a, c, rfl, _⟩ := hv.value
  obtain ⟨n, hn⟩ : ∃ n, k.len = n := ⟨_, rfl⟩
  obtain ⟨d, hd'⟩ : ∃ d : Nat, (Fo.one l ⟨K, T, P⟩ k).deep = d := ⟨_, rfl⟩
  rw [hn] at HSV HB1 ⊢
  rw [hd'] at HSV ⊢
  clear hv hd b1 hn hd'
  go_enter Try.func10, Try.ntmps10
  go_wp2_with fail
  refine HSV.out.mono ?_
  rintro e w5 ⟨rfl, hb5⟩
  have HB := Lib.hid (HB1.out.trans (hb5.mono HB1.out.size))
  clear hb5 HSV
  go_wp2_with fail
  go_ret
  exact ⟨rfl, HB.out⟩
/-- Bytes laid anew. -/
theorem text_new8 (w : World) (bs : List Int) (fr : Nat × Nat) (hs : bs.length ≤ 100000) (hb : ∀ x ∈ bs, 0 ≤ x ∧ x < 256) : BytesAt (w.alloc (.cells (bys bs).toArray 5 fr)) (some ⟨w.heap.size, 0, none⟩) bs ∧ TextOk (some ⟨w.heap.size, 0, none⟩) bs bs.length :=
  ⟨.inr ⟨_, _, rfl, fun j u hu => by rw [Nat.zero_add, World.cell?_alloc_mark]; simpa using hu⟩, hs, Nat.le_refl _, by omega, hb, .inr ⟨_, rfl⟩⟩
/-- The document's example. -/
def ex8B : List Int := [40, 32, 120, 32, 40, 32, 41, 32, 41]
def ex8T : List Tok := [⟨1, [40], 0⟩, ⟨3, [120], 2⟩, ⟨1, [40], 4⟩, ⟨2, [41], 6⟩, ⟨2, [41], 8⟩]
def ex8K : List Tk := [⟨1, txt [40], 0⟩, ⟨3, txt [120], 2⟩, ⟨1, txt [40], 4⟩, ⟨2, txt [41], 6⟩, ⟨2, txt [41], 8⟩]
theorem ex8_reads : readP ex8B = .ok ex8T := by
  have s0 : skipP ex8B 0 = 0 := skip_stop (by decide) (by decide)
  have s1 : skipP ex8B 1 = 2 := by
    rw [skip_blank (by decide)]
    exact skip_stop (by decide) (by decide)
  have s3 : skipP ex8B 3 = 4 := by
    rw [skip_blank (by decide)]
    exact skip_stop (by decide) (by decide)
  have s5 : skipP ex8B 5 = 6 := by
    rw [skip_blank (by decide)]
    exact skip_stop (by decide) (by decide)
  have s7 : skipP ex8B 7 = 8 := by
    rw [skip_blank (by decide)]
    exact skip_stop (by decide) (by decide)
  have s9 : skipP ex8B 9 = 9 := skip_stop (by decide) (by decide)
  unfold readP
  rw [s0, rd_tok (k := 1) (t := [40]) (e := 1) (by decide) (by rfl), s1, rd_tok (k := 3) (t := [120]) (e := 3) (by decide) (by rfl), s3,
    rd_tok (k := 1) (t := [40]) (e := 5) (by decide) (by rfl), s5, rd_tok (k := 2) (t := [41]) (e := 7) (by decide) (by rfl), s7, rd_tok (k := 2) (t := [41]) (e := 9) (by decide) (by rfl), s9, rd_end (by decide)]
  rfl
def ex8F : Fo := .cons false ⟨3, txt [120], 2⟩ .nil (.one true ⟨1, txt [40], 4⟩ .nil)
theorem ex8_tree : readS ex8K = .ok (.one true ⟨1, txt [40], 0⟩ ex8F) := by
  unfold readS ex8K
  rw [run_ok (step_open rfl (by simp)), run_ok (step_leaf (by decide) (by decide)), run_ok (step_open rfl (by simp)), run_ok (step_close rfl), run_ok (step_close rfl)]
  rfl
theorem ex8_deep : (Fo.one true ⟨1, txt [40], 0⟩ ex8F).deep = 2 := by simp [Fo.one, ex8F, Fo.deep]
theorem toks_tks {w : World} {a : Option Addr} (h : ToksAt w a ex8T) : TksAt w a ex8K := by
  rcases h with e | ⟨g, off, e, h⟩
  · cases e
  · exact .inr ⟨g, off, e, h⟩
/-- A call that is true. -/
def Yes (w : World) (e : Ending) (w' : World) : Prop := e = .returned (.bool true) ∧ Below w.heap.size w w'
set_option maxRecDepth 100000 in
set_option maxHeartbeats 8000000 in
theorem speaks08 (w : World) : Calls Try.prog 6 #[] w (Yes w) := by
  have hr1 : Calls Try.prog 11 #[.slice (some ⟨w.heap.size, 0, none⟩) 9 9] (w.alloc (.cells #[.int .u8 40, .int .u8 32, .int .u8 120, .int .u8 32, .int .u8 40, .int .u8 32, .int .u8 41, .int .u8 32, .int .u8 41] 5 (9, 9 + 1))) (ReadIs ex8B _) :=
    Read_any (text_new8 w ex8B (9, 9 + 1) (by decide) (by decide)).1 (text_new8 w ex8B (9, 9 + 1) (by decide) (by decide)).2
  have HR1 := Lib.hid hr1
  have kc := fun (w : World) (C : Array Value) (n c : Nat) => Lib.run_convert_bytes_const (P := Try.prog) w 43 5 C n c Try.underlying43 Try.underlying5
  have HX := Lib.hid ex8_reads
  have HB0 : Hid (Below w.heap.size w (w.alloc (.cells #[.int .u8 40, .int .u8 32, .int .u8 120, .int .u8 32, .int .u8 40, .int .u8 32, .int .u8 41, .int .u8 32, .int .u8 41] 5 (9, 9 + 1)))) := Lib.hid ((Below.refl _ _).alloc (Nat.le_refl _) _)
  clear hr1
  go_enter Try.func6, Try.ntmps6
  go_wp2_with fail
  refine HR1.out.mono ?_
  rintro e w1 h1
  unfold ReadIs at h1
  rw [HX.out] at h1
  obtain ⟨hb1, a1, c1, rfl, ht1, hl1, hm1, hn1, hx1⟩ := h1
  have b1 : Below w1.heap.size w1 (w1.alloc (.cells #[.int .i64 0, .int .i64 0] 27)) := box_below w1 _ _
  have hin : TksIn (w1.alloc (.cells #[.int .i64 0, .int .i64 0] 27)) a1 ex8K c1 := ⟨(toks_tks ht1).kept b1, hl1, hm1, by
    cases a1 with
    | none => exact .inl ⟨rfl, hn1 rfl⟩
    | some x => exact .inr ⟨x, rfl⟩⟩
  have hsr := SRead_any hin (by decide)
  unfold SRead at hsr
  rw [ex8_tree] at hsr
  have HSR := Lib.hid hsr
  have HB1 := Lib.hid ((HB0.out.trans (hb1.mono HB0.out.size)).trans (b1.mono ((HB0.out.trans (hb1.mono HB0.out.size)).size)))
  have h5 : ex8T.length = 5 := rfl
  rw [h5]
  have h5' : ex8K.length = 5 := rfl
  rw [h5'] at HSR
  clear hb1 ht1 hl1 hm1 hn1 hx1 b1 hin hsr h5 h5' HR1 HX HB0
  go_wp2_with fail
  refine HSR.out.mono ?_
  rintro e w2 ⟨hb2, v, rfl, hv⟩
  obtain ⟨a2, c2, rfl, h21, h22, h23⟩ := hv.value
  have hl1 : (Fo.one true ⟨1, txt [40], 0⟩ ex8F).len = 1 := rfl
  rw [hl1] at hv h21 ⊢
  obtain ⟨g, v3, rfl, _, hs3, hx3⟩ := hv.get (i := 0) (l := true) (t := ⟨1, txt [40], 0⟩) (k' := ex8F) rfl
  obtain ⟨a3, c3, rfl, _⟩ := hs3.value
  have hl3 : ex8F.len = 2 := rfl
  rw [hl3] at hs3 hx3
  have b3 : Below w2.heap.size w2 (w2.alloc (.cells #[.int .i64 0, .int .i64 0] 27)) := box_below w2 _ _
  have hx4 : (w2.alloc (.cells #[.int .i64 0, .int .i64 0] 27)).rangeAt g 0 [.bool true, .int .i64 1, .string (txt [40]), .int .i64 0, .slice a3 2 c3] := fun j u hu => by
    have := hx3 j u hu
    rw [Nat.zero_mul] at this
    exact (b3.cell (p := ⟨g, 0 + j, none⟩) (World.block_lt_of_cell? _ _ this)).trans this
  have c0 : (w2.alloc (.cells #[.int .i64 0, .int .i64 0] 27)).cell? ⟨g, 0, none⟩ = some (.bool true) := hx4 0 _ rfl
  have c4 : (w2.alloc (.cells #[.int .i64 0, .int .i64 0] 27)).cell? ⟨g, 4, none⟩ = some (.slice a3 2 c3) := hx4 4 _ rfl
  have hdp := Deep_any (l := true) (K := 1) (T := txt [40]) (P := 0) ((hs3.kept b3).any) (by rw [ex8_deep]; omega)
  rw [ex8_deep] at hdp
  have HDP := Lib.hid hdp
  have HX4 := Lib.hid hx4
  have HB3 := Lib.hid ((HB1.out.trans (hb2.mono HB1.out.size)).trans (b3.mono ((HB1.out.trans (hb2.mono HB1.out.size)).size)))
  clear hb2 hv h21 h22 h23 hl1 hs3 hx3 hl3 b3 hx4 hdp kc
  go_wp2_with (first | (refine wpList_val (.agg #[.bool true, .int .i64 1, .string (txt [40]), .int .i64 0, .slice a3 2 c3]) (run_load_op 38 (.tmp 40) (by with_reducible rfl) g 0 (by rfl) [.bool true, .int .i64 1, .string (txt [40]), .int .i64 0, .slice a3 2 c3] _ HX4.out Try.underlying38 rfl (by rw [size_sexp]; rfl)) (by rfl) ?_))
  refine HDP.out.mono ?_
  rintro e w5 ⟨rfl, hb5⟩
  have HB := Lib.hid (HB3.out.trans (hb5.mono HB3.out.size))
  clear hb5 HDP
  go_wp2_with fail
  go_ret
  exact ⟨rfl, HB.out⟩
end Go.Proofs.Ytgojipnhnmigpaa
