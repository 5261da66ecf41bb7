/-
  Layer 7: how a name stands in a text: readsAs, Symbol.
-/
import Derived.Test.YtfmidhjenapaeaaLxLaw
import Derived.Laws.IdiomStrings
set_option linter.unusedVariables false
set_option linter.unusedSimpArgs false
namespace Go.Proofs.Ytfmidhjenapaeaa
open Go.RowKit Lx

/-- A text's bytes. -/
def intsOf (s : ByteArray) : List Int := s.data.toList.map (fun b => (b.toNat : Int))
theorem ints_len (s : ByteArray) : (intsOf s).length = s.size := by simp [intsOf]
theorem ints_txt (s : ByteArray) : txt (intsOf s) = s := by
  have h := foldl_push_byteCells s.data.toList ByteArray.empty
  unfold txt intsOf
  rw [h]
  have he0 : ByteArray.empty.data = #[] := rfl
  rw [he0]
  simp
theorem ints_byte (s : ByteArray) : ∀ x ∈ intsOf s, 0 ≤ x ∧ x < 256 := by
  intro x hx
  obtain ⟨b, _, rfl⟩ := List.mem_map.1 hx
  have := b.toNat_lt
  omega
/-- Bytes of a string, laid anew. -/
def strWorld (w : World) (s : ByteArray) : World := w.drew.alloc (.cells (bytesRow s (grownCap w s.size 0 5)) 5 ((bytesRow s (grownCap w s.size 0 5)).size, (bytesRow s (grownCap w s.size 0 5)).size + 1))
theorem run_str (w : World) (s : ByteArray) : (convert 9 22 (.string s)).run Try.prog w = .ok (.slice (some ⟨w.heap.size, 0, none⟩) s.size (grownCap w s.size 0 5)) (strWorld w s) :=
  run_bytes_of_string w _ _ _ s Try.underlying9 Try.underlying22 Try.underlying5
theorem str_below (w : World) (s : ByteArray) : Below w.heap.size w (strWorld w s) := ((Below.refl _ _).drew).alloc (Nat.le_refl _) _
theorem str_text (w : World) (s : ByteArray) (hs : s.size ≤ 100000) : BytesAt (strWorld w s) (some ⟨w.heap.size, 0, none⟩) (intsOf s) ∧ TextOk (some ⟨w.heap.size, 0, none⟩) (intsOf s) (grownCap w s.size 0 5) := by
  have h1 := grownCap_ge w s.size 0 5
  have h2 : grownCap w s.size 0 5 ≤ maxLen := grownCap_le_maxLen w s.size 0 5 (by unfold maxLen; omega)
  refine ⟨.inr ⟨_, _, rfl, fun j u hu => ?_⟩, by rw [ints_len]; exact hs, by rw [ints_len]; exact h1, by unfold maxLen at h2; omega, ints_byte s, .inr ⟨_, rfl⟩⟩
  rw [Nat.zero_add]
  have := World.cell?_alloc_mark w.drew (bytesRow s (grownCap w s.size 0 5)) 5 ((bytesRow s (grownCap w s.size 0 5)).size, (bytesRow s (grownCap w s.size 0 5)).size + 1) j
  refine this.trans ?_
  unfold bytesRow
  have hj : j < s.size := by
    have := (List.getElem?_eq_some_iff.1 hu).1
    rw [bys_len, ints_len] at this
    exact this
  have hj' : j < s.data.size := hj
  rw [Array.getElem?_append_left (by simpa using hj')]
  simp only [bys, intsOf, List.map_map, List.getElem?_map] at hu
  simp only [Array.getElem?_map]
  rw [← Array.getElem?_toList]
  exact hu
/-- Is it one symbol with this name? -/
def isOne (r : Except Nat (List Tok)) (nm : List Int) : Bool := match r with
  | .ok [t] => tokEq t ⟨3, nm, 0⟩
  | _ => false
section
variable {w : World}
set_option maxRecDepth 100000 in
set_option maxHeartbeats 4000000 in
theorem readsAs_any (w : World) (s nm : ByteArray) (hs : s.size ≤ 100000) : Calls Try.prog 16 #[.string s, .string nm] w fun e w' => e = .returned (.bool (isOne (readP (intsOf s)) (intsOf nm))) ∧ Below w.heap.size w w' := by
  have hcv := run_str w s
  have ht := str_text w s hs
  have hr := Read_any ht.1 ht.2
  rw [ints_len] at hr
  have HR := Lib.hid hr
  have HNM := Lib.hid (ints_txt nm)
  clear hr ht
  go_enter Try.func16, Try.ntmps16
  go_wp2_with fail
  refine HR.out.mono ?_
  rintro e w2 h2
  unfold ReadIs at h2
  obtain ⟨hb2, h2⟩ := h2
  have HB2 := Lib.hid ((str_below w s).trans (hb2.mono (str_below w s).size))
  clear hcv hb2
  cases hrd : readP (intsOf s) with
  | error p =>
    rw [hrd] at h2
    subst h2
    have HBN := Lib.hid (HB2.out.alloc (o := .cells #[.int .i64 10, .int .i64 (p : Int)] 27) HB2.out.size)
    have HRD := Lib.hid hrd
    clear hrd
    go_wp2_with fail
    go_ret
    exact ⟨by rw [HRD.out]; rfl, HBN.out⟩
  | ok l =>
    rw [hrd] at h2
    obtain ⟨a3, c3, rfl, ht3, _, _, _, _⟩ := h2
    have HBN := Lib.hid (HB2.out.alloc (o := .cells #[.int .i64 0, .int .i64 0] 27) HB2.out.size)
    have ht4 := ht3.kept (w' := w2.alloc (.cells #[.int .i64 0, .int .i64 0] 27)) ((Below.refl _ _).alloc (Nat.le_refl _) _)
    have HRD := Lib.hid hrd
    clear hrd ht3
    by_cases h1 : l.length = 1
    · obtain ⟨t, rfl⟩ : ∃ t, l = [t] := List.length_eq_one_iff.1 h1
      obtain ⟨g, off, rfl, hx⟩ := ht4.at (k := 0) (by simp)
      have hx' : (w2.alloc (.cells #[.int .i64 0, .int .i64 0] 27)).rangeAt g off (tcell t) := by simpa using hx
      have HX := Lib.hid hx'
      have HY := Lib.hid (show (.agg #[.int .i64 3, .string nm, .int .i64 0] : Value) = .agg (tcell ⟨3, intsOf nm, 0⟩).toArray by simp [tcell, tk3, ints_txt])
      rw [h1]
      clear hx hx' ht4 h1
      go_wp2_with (first | (refine wpList_val (.agg (tcell t).toArray) (run_load_op 38 (.tmp 18) (by with_reducible rfl) g off (by rfl) (tcell t) _ HX.out Try.underlying38 rfl (tsize t)) (by rfl) ?_) | (refine wpList_val (.bool (tokEq t ⟨3, intsOf nm, 0⟩)) (run_eqlT_op 38 (.tmp 19) (.tmp 21) (by with_reducible rfl) t ⟨3, intsOf nm, 0⟩ (by rfl) (by exact HY.out)) (by rfl) ?_))
      go_ret
      exact ⟨by rw [HRD.out]; rfl, HBN.out⟩
    · have hne : ((l.length : Int) == 1) = false := by simp; omega
      have hz : isOne (.ok l) (intsOf nm) = false := by
        unfold isOne
        rcases l with _ | ⟨t, _ | ⟨t2, r⟩⟩
        · rfl
        · simp at h1
        · rfl
      have HZ := Lib.hid hz
      clear ht4 h1 hz
      go_wp2_with fail
      go_ret
      rw [HRD.out, HZ.out]
      exact ⟨rfl, HBN.out⟩
/-- A name between two |. -/
def barS (s : ByteArray) : ByteArray := ({ data := #[124] } : ByteArray) ++ s ++ ({ data := #[124] } : ByteArray)
theorem bar_size (s : ByteArray) : (barS s).size = s.size + 2 := by
  simp [barS, ByteArray.size_append]
  have : ({ data := #[124] } : ByteArray).size = 1 := rfl
  omega
/-- The two texts that are tried. -/
def xsOf (s : ByteArray) (k : Nat) : ByteArray := if k = 0 then s else barS s
def okOf (s : ByteArray) (k : Nat) : Bool := isOne (readP (intsOf (xsOf s k))) (intsOf s)
theorem xs_size (s : ByteArray) (k : Nat) : (xsOf s k).size ≤ s.size + 2 := by
  unfold xsOf
  split
  · omega
  · rw [bar_size]
    omega
/-- What Symbol answers. -/
def symV (s : ByteArray) : Value := if okOf s 0 = true then .tuple #[.string (xsOf s 0), .bool true] else if okOf s 1 = true then .tuple #[.string (xsOf s 1), .bool true] else .tuple #[.string { data := #[] }, .bool false]
/-- Behind so many tries. -/
structure SymSt (w : World) (s : ByteArray) (k : Nat) (W : World) : Prop where
  below : Below w.heap.size w W
  c0 : W.cell? ⟨w.heap.size, 0, none⟩ = some (.string (xsOf s 0))
  c1 : W.cell? ⟨w.heap.size, 1, none⟩ = some (.string (xsOf s 1))
  lt : w.heap.size < W.heap.size
  n0 : 0 < k → okOf s 0 = false
  n1 : 1 < k → okOf s 1 = false
theorem SymSt.next {w W W' : World} {s : ByteArray} {k : Nat} (h : SymSt w s k W) (hb : Below W.heap.size W W') (hk : k < 2) (hn : okOf s k = false) : SymSt w s (k + 1) W' := by
  refine ⟨h.below.trans (hb.mono h.below.size), (hb.cell (p := ⟨w.heap.size, 0, none⟩) h.lt).trans h.c0, (hb.cell (p := ⟨w.heap.size, 1, none⟩) h.lt).trans h.c1, Nat.lt_of_lt_of_le h.lt hb.size, fun _ => ?_, fun h1 => ?_⟩
  · by_cases e : k = 0
    · rw [← e]; exact hn
    · exact h.n0 (by omega)
  · have e : k = 1 := by omega
    rw [← e]; exact hn
theorem SymSt.cell {w W : World} {s : ByteArray} {k : Nat} (h : SymSt w s k W) (hk : k < 2) : W.cell? ⟨w.heap.size, k, none⟩ = some (.string (xsOf s k)) := by
  have : k = 0 ∨ k = 1 := by omega
  rcases this with rfl | rfl
  · exact h.c0
  · exact h.c1
theorem SymSt.hit {w W : World} {s : ByteArray} {k : Nat} (h : SymSt w s k W) (hk : k < 2) (hy : okOf s k = true) : symV s = .tuple #[.string (xsOf s k), .bool true] := by
  unfold symV
  have : k = 0 ∨ k = 1 := by omega
  rcases this with rfl | rfl
  · rw [if_pos hy]
  · rw [if_neg (by rw [h.n0 (by omega)]; simp), if_pos hy]
theorem SymSt.none {w W : World} {s : ByteArray} (h : SymSt w s 2 W) : symV s = .tuple #[.string { data := #[] }, .bool false] := by
  unfold symV
  rw [if_neg (by rw [h.n0 (by omega)]; simp), if_neg (by rw [h.n1 (by omega)]; simp)]
set_option maxRecDepth 100000 in
set_option maxHeartbeats 4000000 in
theorem Symbol_any (w : World) (s : ByteArray) (hs : s.size ≤ 300) : Calls Try.prog 10 #[.string s] w fun e w' => e = .returned (symV s) ∧ Below w.heap.size w w' := by
  have HRA := Lib.hid (fun (W : World) (k : Nat) => readsAs_any W (xsOf s k) s (by have := xs_size s k; omega))
  have h0 : SymSt w s 0 (w.alloc (.cells #[.string s, .string (({ data := #[124] } : ByteArray) ++ s ++ ({ data := #[124] } : ByteArray))] 9)) :=
    ⟨(Below.refl _ _).alloc (Nat.le_refl _) _, by rw [World.cell?_alloc_new]; rfl, by rw [World.cell?_alloc_new]; rfl, by simp, fun h => absurd h (by omega), fun h => absurd h (by omega)⟩
  have H0 := Lib.hid h0
  have hz1 : ¬ 9223372036854775807 < 1 + s.size := by omega
  have hz2 : ¬ 9223372036854775807 < 1 + s.size + 1 := by omega
  clear hs h0
  go_enter Try.func10, Try.ntmps10
  go_wp2_with fail
  go_loopw [12] (fun (v : Value) (wr : World) => ∃ k : Nat, k ≤ 2 ∧ v = .int .i64 (k : Int) ∧ Hid (SymSt w s k wr)) (fun v _ => 2 - (intOf v).toNat)
  case atStart => exact ⟨0, by omega, rfl, H0⟩
  case round =>
    obtain ⟨k, hk, rfl, HK⟩ := hrel
    clear H0
    by_cases hk2 : k < 2
    · have hc := HK.out.cell hk2
      have HT := Lib.hid (HRA.out wr k)
      have hki : (k : Int) < 2 := by omega
      have hok : isOne (readP (intsOf (xsOf s k))) (intsOf s) = okOf s k := rfl
      rw [hok] at HT
      have HKK := Lib.hid (And.intro hk2 hk)
      clear hok
      cases hy : okOf s k with
      | true =>
        rw [hy] at HT
        have HV := Lib.hid (HK.out.hit hk2 hy)
        clear hy hk
        generalize xsOf s k = X at *
        go_wp2_with fail
        refine HT.out.mono ?_
        rintro e w2 ⟨rfl, hb2⟩
        have HB := Lib.hid (HK.out.below.trans (hb2.mono HK.out.below.size))
        clear hb2
        go_wp2_with fail
        refine bodyPost_ret (v := .tuple #[.string X, .bool true]) ?_ rfl ⟨by rw [HV.out], HB.out⟩
        simp [results, Try.results10]
      | false =>
        rw [hy] at HT
        have HN := Lib.hid (fun W hb => HK.out.next (W' := W) hb hk2 hy)
        clear hy hk
        generalize xsOf s k = X at *
        go_wp2_with fail
        refine HT.out.mono ?_
        rintro e w2 ⟨rfl, hb2⟩
        have H2 := Lib.hid (HN.out w2 hb2)
        clear hb2
        go_wp2_with fail
        go_roundw
        case rel => exact ⟨k + 1, by omega, by go_num, H2⟩
        case measure => simp [intOf]; omega
    · obtain rfl : k = 2 := by omega
      clear hk hk2
      go_wp2_with fail
      refine bodyPost_ret (v := .tuple #[.string { data := #[] }, .bool false]) ?_ rfl ⟨by rw [HK.out.none], HK.out.below⟩
      simp [results, Try.results10]
theorem same_one (l : List Tok) (nm : List Int) : sameB l [⟨3, nm, 0⟩] = isOne (.ok l) nm := by
  unfold sameB isOne
  rcases l with _ | ⟨t, _ | ⟨t2, r⟩⟩
  · rfl
  · simp [List.range_succ]
  · simp
theorem sym_value (s : ByteArray) : ∃ T q, symV s = .tuple #[.string T, .bool q] := by
  unfold symV
  split
  · exact ⟨_, _, rfl⟩
  · split
    · exact ⟨_, _, rfl⟩
    · exact ⟨_, _, rfl⟩
set_option maxRecDepth 100000 in
set_option maxHeartbeats 8000000 in
theorem symbols_walk (w : World) (s : ByteArray) : Calls Try.prog 4 #[.string s] w (Yes w) := by
  have HSP := Lib.hid (speaks_any w)
  go_enter Try.func4, Try.ntmps4
  go_wp2_with fail
  refine HSP.out.mono ?_
  rintro e w1 ⟨rfl, hb1⟩
  have HB1 := Lib.hid hb1
  clear hb1
  by_cases hbig : 300 < s.size
  · have hg : (300 : Int) < (s.size : Int) := by omega
    clear hbig
    go_wp2_with fail
    go_ret
    exact ⟨rfl, HB1.out⟩
  · have hg : ¬ (300 : Int) < (s.size : Int) := by omega
    have hsz : s.size ≤ 300 := by omega
    have HSZ := Lib.hid hsz
    have HSY := Lib.hid (Symbol_any w1 s hsz)
    obtain ⟨T, q, hTq⟩ := sym_value s
    have HTQ := Lib.hid hTq
    rw [hTq] at HSY
    have hz1 : ¬ 9223372036854775807 < 1 + s.size := by omega
    have hz2 : ¬ 9223372036854775807 < 1 + s.size + 1 := by omega
    clear hbig hsz hTq
    go_wp2_with fail
    refine HSY.out.mono ?_
    rintro e w5 ⟨rfl, hb5⟩
    have HB5 := Lib.hid (HB1.out.trans (hb5.mono HB1.out.size))
    have h0 : SymSt w5 s 0 (w5.alloc (.cells #[.string s, .string (({ data := #[124] } : ByteArray) ++ s ++ ({ data := #[124] } : ByteArray))] 9)) :=
      ⟨(Below.refl _ _).alloc (Nat.le_refl _) _, by rw [World.cell?_alloc_new]; rfl, by rw [World.cell?_alloc_new]; rfl, by simp, fun h => absurd h (by omega), fun h => absurd h (by omega)⟩
    have H0 := Lib.hid h0
    clear hb5 h0
    go_wp2_with fail
    go_loopw [25] (fun (v : Value) (wr : World) => ∃ k : Nat, k ≤ 2 ∧ v = .int .i64 (k : Int) ∧ Hid (SymSt w5 s k wr)) (fun v _ => 2 - (intOf v).toNat)
    case atStart => exact ⟨0, by omega, rfl, H0⟩
    case round =>
      obtain ⟨k, hk, rfl, HK⟩ := hrel
      clear H0
      by_cases hk2 : k < 2
      · have hc := HK.out.cell hk2
        have hki : (k : Int) < 2 := by omega
        have HKK := Lib.hid (And.intro hk2 hk)
        have hxs : (xsOf s k).size ≤ 100000 := by have := xs_size s k; have := HSZ.out; omega
        have htx := str_text wr (xsOf s k) hxs
        have hrf := RefRead_any htx.1 htx.2
        rw [ints_len] at hrf
        have hcv := run_str wr (xsOf s k)
        have hok : okOf s k = isOne (readP (intsOf (xsOf s k))) (intsOf s) := rfl
        have HHIT := Lib.hid (fun h => HK.out.hit hk2 h)
        have HN := Lib.hid (fun W hb h => HK.out.next (W' := W) hb hk2 h)
        unfold RefIs at hrf
        have HXL : Hid ((intsOf (xsOf s k)).length ≤ 100000) := Lib.hid (by rw [ints_len]; exact hxs)
        obtain ⟨X, hX⟩ : ∃ X, xsOf s k = X := ⟨_, rfl⟩
        rw [hX] at hc hrf hcv hok HHIT HXL
        have HRF := Lib.hid hrf
        clear hk hxs htx hrf hX
        go_wp2_with fail
        refine HRF.out.mono ?_
        rintro e w2 ⟨hb2, h2⟩
        have hbw := (str_below wr X).trans (hb2.mono (str_below wr X).size)
        clear hcv hb2
        cases hrd : readP (intsOf X) with
        | error p =>
          rw [hrd] at h2 hok
          subst h2
          have hpn : ¬ (p : Int) < 0 := by omega
          have H2 := Lib.hid (HN.out w2 hbw hok)
          clear hrd hok hbw
          go_wp2_with fail
          go_roundw
          case rel => exact ⟨k + 1, by omega, by go_num, H2⟩
          case measure => simp [intOf]; omega
        | ok l =>
          rw [hrd] at h2 hok
          obtain ⟨a3, c3, rfl, ht3, _, _, _, _⟩ := h2
          have hcnt := rd_count _ _ (skipP (intsOf X) 0) [] l rfl hrd
          have hal : Below w2.heap.size w2 (w2.alloc (.cells #[.int .i64 3, .string s, .int .i64 0] 38)) := (Below.refl _ _).alloc (Nat.le_refl _) _
          have ht4 : ToksAt (w2.alloc (.cells #[.int .i64 3, .string s, .int .i64 0] 38)) (some ⟨w2.heap.size, 0, none⟩) [⟨3, intsOf s, 0⟩] := by
            refine .inr ⟨_, _, rfl, ?_⟩
            have := rangeAt_new w2 [.int .i64 3, .string s, .int .i64 0] 38
            simpa [tcells, tcell, tk3, ints_txt] using this
          have hsame := Same_any (c1 := c3) (c2 := 1) (ht3.kept hal) ht4 (by have := HXL.out; simp at hcnt; omega)
          rw [same_one, ← hok] at hsame
          have hbn : ∀ n, Below wr.heap.size wr ((w2.alloc (.cells #[.int .i64 3, .string s, .int .i64 0] 38)).drewN n) := fun n => by
            have q1 := hbw.trans (hal.mono hbw.size)
            exact q1.trans ((below_drewN _ n).mono q1.size)
          have HSAME := Lib.hid hsame
          have HBN := Lib.hid hbn
          cases hy : okOf s k with
          | true =>
            rw [hy] at HSAME
            have hv := HHIT.out hy
            rw [HTQ.out] at hv
            simp only [Value.tuple.injEq, Array.mk.injEq, List.cons.injEq, Value.string.injEq, Value.bool.injEq, and_true] at hv
            obtain ⟨rfl, rfl⟩ := hv
            have HBW := Lib.hid (fun n => HB5.out.trans ((HK.out.below.trans ((hbn n).mono HK.out.below.size)).mono HB5.out.size))
            clear hrd hok hbw ht3 hcnt hal ht4 hsame hbn hy
            go_wp2_with fail
            refine HSAME.out.mono ?_
            rintro e w7 ⟨rfl, n, rfl⟩
            go_wp2_with fail
            go_ret
            exact ⟨rfl, HBW.out n⟩
          | false =>
            rw [hy] at HSAME
            have H2 := Lib.hid (fun n => HN.out _ (hbn n) hy)
            clear hrd hok hbw ht3 hcnt hal ht4 hsame hbn hy
            go_wp2_with fail
            refine HSAME.out.mono ?_
            rintro e w7 ⟨rfl, n, rfl⟩
            go_wp2_with fail
            go_roundw
            case rel => exact ⟨k + 1, by omega, by go_num, Lib.hid (H2.out n)⟩
            case measure => simp [intOf]; omega
      · obtain rfl : k = 2 := by omega
        have hv := HK.out.none
        rw [HTQ.out] at hv
        simp only [Value.tuple.injEq, Array.mk.injEq, List.cons.injEq, Value.string.injEq, Value.bool.injEq, and_true] at hv
        obtain ⟨rfl, rfl⟩ := hv
        have HBW := Lib.hid (HB5.out.trans (HK.out.below.mono HB5.out.size))
        clear hk hk2
        go_wp2_with fail
        go_ret
        exact ⟨rfl, HBW.out⟩
end
end Go.Proofs.Ytfmidhjenapaeaa
